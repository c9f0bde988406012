/- Texts laid together by wip/lay12v.py: VoB VoE OpenBytes. -/
import Derived.Test.YtnfdokcpjcnknaaVoY1
import Derived.Test.YtnfdokcpjcnknaaStoD
import Derived.Deep.RegionHeld3
import Derived.Test.YtnfdokcpjcnknaaVoY2
import Derived.Test.YtnfdokcpjcnknaaDraw
import Derived.ProofKit
import Derived.OpenShut
import Derived.ShutString
import Derived.ChangeOld
import Derived.Below
/- Stows that are drawn. Written by wip/mkvob.py. No statement about the program stands here. -/
namespace Go.Proofs.Ytnfdokcpjcnknaa
open Go.RowKit

/-- Stows that are drawn: a row of the call's own. -/
def StAns (cb n : Nat) (v : Value) (w : World) (e : Ending) (w' : World) : Prop := ∃ ro m c L, e = .returned (.slice ro m c) ∧ m ≤ 10 ∧ RowB 40 9 eStow w.heap.size w' ro m c L ∧ Cur w' cb v n ∧ Kept (fun b => b = cb) w w'
theorem st_mk {cb n : Nat} {v : Value} {w w' : World} {ro : Option Addr} {m c : Nat} {L : List StowT} (h1 : m ≤ 10) (h2 : RowB 40 9 eStow w.heap.size w' ro m c L) (h3 : Cur w' cb v n) (h4 : Kept (fun b => b = cb) w w') : StAns cb n v w (.returned (.slice ro m c)) w' := ⟨ro, m, c, L, rfl, h1, h2, h3, h4⟩
/-- What a round holds: the row, the cursor, all else as it was. -/
structure Rd3 (cb n : Nat) (v : Value) (w W : World) (ro : Option Addr) (m c : Nat) (L : List StowT) : Prop where
  row : RowB 40 9 eStow w.heap.size W ro m c L
  cur : Cur W cb v n
  kept : Kept (fun b => b = cb) w W
section
variable {cb n : Nat} {v : Value} {w W W' : World} {ro : Option Addr} {m c : Nat} {L : List StowT}
theorem Rd3.step (h : Rd3 cb n v w W ro m c L) (hb : Below W.heap.size W W') : Rd3 cb n v w W' ro m c L := ⟨h.row.below hb, h.cur.below hb, h.kept.trans (kept_of_below hb)⟩
theorem Rd3.draw (h : Rd3 cb n v w W ro m c L) (hcw : cb < w.heap.size) (hC : Cur W' cb v n) (hK : Kept (fun b => b = cb) W W') : Rd3 cb n v w W' ro m c L := ⟨h.row.kept hK (fun g _ hg _ e => by omega), hC, h.kept.trans hK⟩
theorem Rd3.setc {g i : Nat} {u : Value} (h : Rd3 cb n v w W ro m c L) (hcw : cb < w.heap.size) (hg : w.heap.size ≤ g) (hr : ro ≠ some ⟨g, 0, none⟩) : Rd3 cb n v w (W.setCell ⟨g, i, none⟩ u) ro m c L := ⟨rowSet h.row hr, curSet h.cur (by omega), keptSet h.kept hg⟩
/-- A row of its own, from B on, is appended to. -/
theorem Rd3.app {α : Type} [Inhabited α] {T : TypeId} {k : Nat} {enc : α → Nat → Value} {B : Nat} {ao : Option Addr} {m' cap' : Nat} {M : List α} (h : Rd3 cb n v w W ro m c L) (hcw : cb < w.heap.size) (hB : w.heap.size ≤ B) (hr : ∀ g, ro = some ⟨g, 0, none⟩ → g < B) (hn : 0 < k) (hR : RowB T k enc B W ao m' cap' M) (hA : Kept (fun q => ao = some ⟨q, 0, none⟩) W W') : Rd3 cb n v w W' ro m c L :=
  ⟨h.row.kept hA (fun g e _ _ e' => by have := hR.at' hn e'; have := hr g e; omega), h.cur.kept hA (fun b e => by have := hR.at' hn e; omega), ⟨hA.os.trans h.kept.os, hA.tape.trans h.kept.tape, hA.output.trans h.kept.output, Nat.le_trans h.kept.size hA.size, fun q hq hp => (hA.block q (Nat.lt_of_lt_of_le hq h.kept.size) (fun e => by have := hR.at' hn e; omega)).trans (h.kept.block q hq hp)⟩⟩
end
theorem own_app {α : Type} [Inhabited α] {T : TypeId} {k : Nat} {enc : α → Nat → Value} {B g : Nat} {W W' : World} {ao : Option Addr} {m' cap' : Nat} {M : List α} {vs : List Value} (h : OwnV W g vs) (hg : g < B) (hn : 0 < k) (hR : RowB T k enc B W ao m' cap' M) (hA : Kept (fun q => ao = some ⟨q, 0, none⟩) W W') : OwnV W' g vs := h.kept hA (fun e => by have := hR.at' hn e; omega)

theorem onRowV {B : Nat} {w W w' : World} {ao : Option Addr} {m cap n : Nat} {T : TypeId} {α : Type} [Inhabited α] {enc : α → Nat → Value} {L : List α} (hW : Below B w W) (h : RowB T n enc B W ao m cap L) (hn : 0 < n) (hB : B ≤ W.heap.size) (hK : Kept (fun k => ao = some ⟨k, 0, none⟩) W w') : Below B w w' := by
  refine Below.trans hW (hK.below hB (fun q hq => ?_))
  rcases h.parts hn with ⟨e, _⟩ | ⟨g, e, hg, _⟩
  · rw [hq] at e; cases e
  · rw [hq] at e; simp only [Option.some.injEq, Addr.mk.injEq, and_true] at e; omega
theorem ownFar {W : World} {g g' i : Nat} {u : Value} {vs : List Value} (h : OwnV W g vs) (hne : g ≠ g') : OwnV (W.setCell ⟨g', i, none⟩ u) g vs := h.other (a := ⟨g', i, none⟩) hne u

set_option maxRecDepth 100000 in
set_option maxHeartbeats 51200000 in
theorem l12DrawStows_any (cb n : Nat) (v : Value) (ba : Option Addr) (bm bc : Nat) (H : List HatchT) (B U many : Nat) (w : World) (h : Cur w cb v n) (hn : n ≤ 1048576) (hbay : OwnRU 4 eHatch B U w (.slice ba bm bc) H) (hcB : cb < B) (hb7 : bm ≤ 7) (hmany : many ≤ 10) :
    Calls Try.prog 12 #[.pointer (some ⟨cb, 0, none⟩), .slice ba bm bc, .int .i64 (many : Int)] w fun e w' => StAns cb n v w e w' := by
  have hcl := h.lt
  have QB := hide fun W (hW : Cur W cb v n) k h0 => l1BelowG_any cb n v k W hW hn h0
  have QO := hide fun W (hW : Cur W cb v n) k h0 h1 => l1Once_any cb n v k W hW hn h0 h1
  have QD := hide fun W (hW : Cur W cb v n) => l11Draw_any cb n v W hW hn
  have hbml : Hid (bm = H.length) := by
    obtain ⟨_, _, e, _⟩ := hbay
    simp only [Value.slice.injEq] at e
    exact e.2.1
  have HBAY := hide fun W (hK : Kept (fun b => b = cb) w W) => (hbay.kept hK (fun b h1 _ e => by omega)).inn
  have hA := Below.alloc1 w (.cells #[] 40)
  have HR0 : Hid (Rd3 cb n v w (w.alloc (.cells #[] 40)) (some ⟨w.heap.size, 0, none⟩) 0 0 []) := ⟨rowB_new 40 9 eStow w w.heap.size (Nat.le_refl _), h.below hA, kept_of_below hA⟩
  clear h hbay hA
  go_enter Try.func12, Try.ntmps12
  go_wp2
  go_loopg [7, 8] (3 * many) (fun g ov iv wr => ∃ (k m c : Nat) (ro : Option Addr) (L : List StowT), g = k ∧ iv = .int .i64 k ∧ ov = .slice ro m c ∧ k ≤ 30 ∧ m ≤ 10 ∧ Hid (Rd3 cb n v w wr ro m c L))
  case atStart => exact ⟨3 * many, 0, 0, some ⟨w.heap.size, 0, none⟩, [], rfl, by go_num, rfl, by omega, by omega, unhide HR0⟩
  case round =>
    clear HR0
    obtain ⟨k1, m, c, ro, L, hgk, rfl, rfl, hk30, hm10, HR⟩ := hrel
    have hgk' := hgk.symm
    clear hgk
    subst hgk'
    by_cases hk0 : 0 < k1
    case neg =>
      have hki : ¬ (0 : Int) < (k1 : Int) := by omega
      go_wp2
      go_ret
      exact st_mk hm10 (unhide HR).row (unhide HR).cur (unhide HR).kept
    obtain ⟨k, rfl⟩ : ∃ k, k1 = k + 1 := ⟨k1 - 1, by omega⟩
    have hki : (0 : Int) < (k : Int) + 1 := by omega
    have hki2 : (0 : Int) < ((k + 1 : Nat) : Int) := by omega
    by_cases hmm : m < many
    case neg =>
      have hmi : ¬ (m : Int) < (many : Int) := by omega
      go_wp2
      go_ret
      exact st_mk hm10 (unhide HR).row (unhide HR).cur (unhide HR).kept
    have hmi : (m : Int) < (many : Int) := by omega
    by_cases hbz : 0 < bm
    case neg =>
      have hbi : ¬ (0 : Int) < (bm : Int) := by omega
      go_wp2
      go_ret
      exact st_mk hm10 (unhide HR).row (unhide HR).cur (unhide HR).kept
    have hbi : (0 : Int) < (bm : Int) := by omega
    go_wp2_with fail
    refine (unhide QB _ (unhide HR).cur (bm : Int) (by omega)).mono ?_
    rintro e W1 ⟨b, rfl, hb0, hb1, hC, hK⟩
    replace HR := hide ((unhide HR).draw hcl hC hK)
    clear hC hK
    obtain ⟨j, rfl⟩ : ∃ j : Nat, b = (j : Int) := ⟨b.toNat, by omega⟩
    obtain ⟨ba', bc', e1, -, -, hcc⟩ := unhide HBAY W1 (unhide HR).kept
    simp only [Value.slice.injEq] at e1
    obtain ⟨rfl, -, rfl⟩ := e1
    obtain ⟨bb, bo, x0, x1, x2, x3, rfl, c0, c1, c2, c3, -⟩ := recHatchAt hcc (show j < H.length by have := unhide hbml; omega)
    have hji : (j : Int) < (bm : Int) := by omega
    clear hcc c1 c2 c3
    by_cases hx : x0 < 1
    · go_wp2
      go_roundg k
      case measure => omega
      case rel => exact ⟨k, m, c, ro, L, rfl, by go_num, rfl, by omega, hm10, unhide HR⟩
    have hxd : decide (x0 < 1) = false := decide_eq_false hx
    go_wp2_with fail
    refine (unhide QB _ (unhide HR).cur x0 (by omega)).mono ?_
    rintro e W2 ⟨y, rfl, -, -, hC, hK⟩
    replace HR := hide ((unhide HR).draw hcl hC hK)
    clear hC hK c0
    have hgsw := (unhide HR).kept.size
    have hrs : ∀ g, ro = some ⟨g, 0, none⟩ → g < W2.heap.size := fun g e => by
      rcases (unhide HR).row.parts (by decide) with ⟨e', _⟩ | ⟨g', e', _, hg', _⟩
      · rw [e] at e'; cases e'
      · rw [e] at e'; simp only [Option.some.injEq, Addr.mk.injEq, and_true] at e'; omega
    have HRS := hide hrs
    clear hrs
    have hA := Below.alloc1 W2 (.cells #[.int .i64 (j : Int), .int .i64 y, .int .i64 0] 38)
    replace HR := hide ((unhide HR).step hA)
    have HS := hide (ownV_alloc W2 #[.int .i64 (j : Int), .int .i64 y, .int .i64 0] 38)
    obtain ⟨gs, egs⟩ : ∃ z, z = W2.heap.size := ⟨_, rfl⟩
    rw [← egs] at HS HRS hgsw
    have hgsc : ¬ gs = cb := by omega
    have HNE : Hid (ro ≠ some ⟨gs, 0, none⟩) := fun e => by have := unhide HRS gs e; omega
    clear hA
    go_upto_region 8 with (fail)
    rw [← egs]
    generalize W2.alloc (.cells #[.int .i64 (j : Int), .int .i64 y, .int .i64 0] 38) = W3 at *
    clear egs
    have c0 := (unhide HS).cell (i := 0) rfl
    have c1 := (unhide HS).cell (i := 1) rfl
    go_wp2_with fail
    refine (l12Stack_any _ L (j : Int) y _ ((unhide HR).row.recs (by decide))).mono ?_
    rintro e W4 ⟨so, sm, scp, rfl, hrow, h20, hb⟩
    replace HR := hide ((unhide HR).step hb)
    replace HS := hide ((unhide HS).step hb)
    have hgl3 := (unhide HS).lt
    have hgs3 : gs < W3.heap.size := lt_of_cell c0
    have HSK : Hid (∀ g, so = some ⟨g, 0, none⟩ → W3.heap.size ≤ g) := fun g e => hrow.at' (by decide) e
    have HNS : Hid (so ≠ some ⟨gs, 0, none⟩) := fun e => by have := unhide HSK gs e; omega
    have HST := hide hrow
    have HRT : Hid (∀ g, so = some ⟨g, 0, none⟩ → g < W4.heap.size) := fun g e => by
      rcases hrow.parts (by decide) with ⟨e', _⟩ | ⟨g', e', _, hg', _⟩
      · rw [e] at e'; cases e'
      · rw [e] at e'; simp only [Option.some.injEq, Addr.mk.injEq, and_true] at e'; omega
    have c2 := (unhide HS).cell (i := 2) rfl
    have f2 := (unhide HS).frozen 2
    have hw4 := hb.size
    have hz5 : (W4.setCell ⟨gs, 2, none⟩ (.int .i64 (sm : Int))).heap.size = W4.heap.size := by simp [World.setCell]
    clear hb c0 c1 hrow
    go_upto_region 10 with (fail)
    replace HR := hide ((unhide HR).setc (i := 2) (u := .int .i64 (sm : Int)) hcl hgsw (unhide HNE))
    replace HS := hide ((unhide HS).set 2 (.int .i64 (sm : Int)) (by simp))
    simp only [List.set] at HS
    replace HST := hide (rowSet (i := 2) (u := .int .i64 (sm : Int)) (unhide HST) (unhide HNS))
    generalize W4.setCell ⟨gs, 2, none⟩ (.int .i64 (sm : Int)) = W5 at *
    go_wp2_with fail
    refine (unhide QD _ (unhide HR).cur).mono ?_
    rintro e W6 ⟨xs, xw, xc, xo, xf, xt, rfl, hC, hK⟩
    replace HR := hide ((unhide HR).draw hcl hC hK)
    replace HS := hide ((unhide HS).kept hK hgsc)
    replace HST := hide ((unhide HST).kept hK (fun g e _ _ e' => by have := unhide HSK g e; omega))
    have hw6 := hK.size
    clear hC hK QD
    unfold vBox
    have hA := Below.alloc1 W6 (.cells #[.string xs, .int .i64 xw, .int .i64 xc, .bool xo, .int .i64 xf, .int .i64 xt] 36)
    replace HR := hide ((unhide HR).step hA)
    replace HS := hide ((unhide HS).step hA)
    replace HST := hide ((unhide HST).below hA)
    have HX := hide (ownV_alloc W6 #[.string xs, .int .i64 xw, .int .i64 xc, .bool xo, .int .i64 xf, .int .i64 xt] 36)
    obtain ⟨gx, egx⟩ : ∃ z, z = W6.heap.size := ⟨_, rfl⟩
    rw [← egx] at HX hw6
    have hgxs : gs < gx := by omega
    have hgxw : w.heap.size ≤ gx := by omega
    have hgxc : ¬ gx = cb := by omega
    have HNX : Hid (ro ≠ some ⟨gx, 0, none⟩) := fun e => by have := unhide HRS gx e; omega
    have HNY : Hid (so ≠ some ⟨gx, 0, none⟩) := fun e => by
      have := unhide HRT gx e
      omega
    clear hA
    go_upto_region 11 with (fail)
    rw [← egx]
    generalize W6.alloc (.cells #[.string xs, .int .i64 xw, .int .i64 xc, .bool xo, .int .i64 xf, .int .i64 xt] 36) = W7 at *
    clear egx
    go_wp2_with fail
    refine (unhide QO _ (unhide HR).cur 12 (by omega) (by omega)).mono ?_
    rintro e W8 ⟨q, rfl, hC, hK⟩
    replace HR := hide ((unhide HR).draw hcl hC hK)
    replace HS := hide ((unhide HS).kept hK hgsc)
    replace HX := hide ((unhide HX).kept hK hgxc)
    replace HST := hide ((unhide HST).kept hK (fun g e _ _ e' => by have := unhide HSK g e; omega))
    clear hC hK
    have k2 := (unhide HX).cell (i := 2) rfl
    have fx2 := (unhide HX).frozen 2
    dsimp only
    iterate 4 go_step
    first
      | (go_cut [] (fun wx => ∃ yc : Int, Hid (Rd3 cb n v w wx ro m c L) ∧ Hid (OwnV wx gs [.int .i64 (j : Int), .int .i64 y, .int .i64 (sm : Int)]) ∧ Hid (OwnV wx gx [.string xs, .int .i64 xw, .int .i64 yc, .bool xo, .int .i64 xf, .int .i64 xt]) ∧ Hid (RowB 36 6 eBox W3.heap.size wx so sm scp (stkL L (j : Int) y))))
      | (go_step; go_cut [] (fun wx => ∃ yc : Int, Hid (Rd3 cb n v w wx ro m c L) ∧ Hid (OwnV wx gs [.int .i64 (j : Int), .int .i64 y, .int .i64 (sm : Int)]) ∧ Hid (OwnV wx gx [.string xs, .int .i64 xw, .int .i64 yc, .bool xo, .int .i64 xf, .int .i64 xt]) ∧ Hid (RowB 36 6 eBox W3.heap.size wx so sm scp (stkL L (j : Int) y))))
      | (go_step; go_step; go_cut [] (fun wx => ∃ yc : Int, Hid (Rd3 cb n v w wx ro m c L) ∧ Hid (OwnV wx gs [.int .i64 (j : Int), .int .i64 y, .int .i64 (sm : Int)]) ∧ Hid (OwnV wx gx [.string xs, .int .i64 xw, .int .i64 yc, .bool xo, .int .i64 xf, .int .i64 xt]) ∧ Hid (RowB 36 6 eBox W3.heap.size wx so sm scp (stkL L (j : Int) y))))
      | (go_step; go_step; go_step; go_cut [] (fun wx => ∃ yc : Int, Hid (Rd3 cb n v w wx ro m c L) ∧ Hid (OwnV wx gs [.int .i64 (j : Int), .int .i64 y, .int .i64 (sm : Int)]) ∧ Hid (OwnV wx gx [.string xs, .int .i64 xw, .int .i64 yc, .bool xo, .int .i64 xf, .int .i64 xt]) ∧ Hid (RowB 36 6 eBox W3.heap.size wx so sm scp (stkL L (j : Int) y))))
      | (go_step; go_step; go_step; go_step; go_cut [] (fun wx => ∃ yc : Int, Hid (Rd3 cb n v w wx ro m c L) ∧ Hid (OwnV wx gs [.int .i64 (j : Int), .int .i64 y, .int .i64 (sm : Int)]) ∧ Hid (OwnV wx gx [.string xs, .int .i64 xw, .int .i64 yc, .bool xo, .int .i64 xf, .int .i64 xt]) ∧ Hid (RowB 36 6 eBox W3.heap.size wx so sm scp (stkL L (j : Int) y))))
      | (go_step; go_step; go_step; go_step; go_step; go_cut [] (fun wx => ∃ yc : Int, Hid (Rd3 cb n v w wx ro m c L) ∧ Hid (OwnV wx gs [.int .i64 (j : Int), .int .i64 y, .int .i64 (sm : Int)]) ∧ Hid (OwnV wx gx [.string xs, .int .i64 xw, .int .i64 yc, .bool xo, .int .i64 xf, .int .i64 xt]) ∧ Hid (RowB 36 6 eBox W3.heap.size wx so sm scp (stkL L (j : Int) y))))
      | (go_step; go_step; go_step; go_step; go_step; go_step; go_cut [] (fun wx => ∃ yc : Int, Hid (Rd3 cb n v w wx ro m c L) ∧ Hid (OwnV wx gs [.int .i64 (j : Int), .int .i64 y, .int .i64 (sm : Int)]) ∧ Hid (OwnV wx gx [.string xs, .int .i64 xw, .int .i64 yc, .bool xo, .int .i64 xf, .int .i64 xt]) ∧ Hid (RowB 36 6 eBox W3.heap.size wx so sm scp (stkL L (j : Int) y))))
      | (go_step; go_step; go_step; go_step; go_step; go_step; go_step; go_cut [] (fun wx => ∃ yc : Int, Hid (Rd3 cb n v w wx ro m c L) ∧ Hid (OwnV wx gs [.int .i64 (j : Int), .int .i64 y, .int .i64 (sm : Int)]) ∧ Hid (OwnV wx gx [.string xs, .int .i64 xw, .int .i64 yc, .bool xo, .int .i64 xf, .int .i64 xt]) ∧ Hid (RowB 36 6 eBox W3.heap.size wx so sm scp (stkL L (j : Int) y))))
      | (go_step; go_step; go_step; go_step; go_step; go_step; go_step; go_step; go_cut [] (fun wx => ∃ yc : Int, Hid (Rd3 cb n v w wx ro m c L) ∧ Hid (OwnV wx gs [.int .i64 (j : Int), .int .i64 y, .int .i64 (sm : Int)]) ∧ Hid (OwnV wx gx [.string xs, .int .i64 xw, .int .i64 yc, .bool xo, .int .i64 xf, .int .i64 xt]) ∧ Hid (RowB 36 6 eBox W3.heap.size wx so sm scp (stkL L (j : Int) y))))
      | (go_step; go_step; go_step; go_step; go_step; go_step; go_step; go_step; go_step; go_cut [] (fun wx => ∃ yc : Int, Hid (Rd3 cb n v w wx ro m c L) ∧ Hid (OwnV wx gs [.int .i64 (j : Int), .int .i64 y, .int .i64 (sm : Int)]) ∧ Hid (OwnV wx gx [.string xs, .int .i64 xw, .int .i64 yc, .bool xo, .int .i64 xf, .int .i64 xt]) ∧ Hid (RowB 36 6 eBox W3.heap.size wx so sm scp (stkL L (j : Int) y))))
      | (go_step; go_step; go_step; go_step; go_step; go_step; go_step; go_step; go_step; go_step; go_cut [] (fun wx => ∃ yc : Int, Hid (Rd3 cb n v w wx ro m c L) ∧ Hid (OwnV wx gs [.int .i64 (j : Int), .int .i64 y, .int .i64 (sm : Int)]) ∧ Hid (OwnV wx gx [.string xs, .int .i64 xw, .int .i64 yc, .bool xo, .int .i64 xf, .int .i64 xt]) ∧ Hid (RowB 36 6 eBox W3.heap.size wx so sm scp (stkL L (j : Int) y))))
      | (go_step; go_step; go_step; go_step; go_step; go_step; go_step; go_step; go_step; go_step; go_step; go_cut [] (fun wx => ∃ yc : Int, Hid (Rd3 cb n v w wx ro m c L) ∧ Hid (OwnV wx gs [.int .i64 (j : Int), .int .i64 y, .int .i64 (sm : Int)]) ∧ Hid (OwnV wx gx [.string xs, .int .i64 xw, .int .i64 yc, .bool xo, .int .i64 xf, .int .i64 xt]) ∧ Hid (RowB 36 6 eBox W3.heap.size wx so sm scp (stkL L (j : Int) y))))
    case first =>
      cases q
      · go_wp2
        go_meet
        exact ⟨0, hide ((unhide HR).setc (i := 2) (u := .int .i64 0) hcl hgxw (unhide HNX)), hide (ownFar (g' := gx) (i := 2) (u := .int .i64 0) (unhide HS) (by omega)), hide ((unhide HX).set 2 (.int .i64 0) (by simp)), hide (rowSet (i := 2) (u := .int .i64 0) (unhide HST) (unhide HNY))⟩
      · go_wp2
        go_meet
        exact ⟨xc, HR, HS, HX, HST⟩
    case rest =>
    clear HR HS HX HST k2 fx2
    obtain ⟨yc, HR, HS, HX, HST⟩ := hcut
    go_upto_region 13 with (fail)
    have hd : Below wc.heap.size wc wc.drew := (Below.refl _ _).drew
    replace HR := hide ((unhide HR).step hd)
    replace HS := hide ((unhide HS).step hd)
    replace HX := hide ((unhide HX).step hd)
    replace HST := hide ((unhide HST).below hd)
    clear hd
    have kx1 := (unhide HX).cell (i := 1) rfl
    have hs0c : sm = 0 ∨ 0 < sm := by omega
    rcases hs0c with hs0 | hs0
    · have hs0d : ¬ (0 : Int) < (sm : Int) := by omega
      have hs0b : decide ((0 : Int) < (sm : Int)) = false := decide_eq_false hs0d
      have hs0e : decide (0 < sm) = false := decide_eq_false (by omega)
      have hs0f : ¬ 0 < sm := by omega
      clear hs0
      go_region
      go_upto_region 15 with (fail)
      generalize wc.drew = wz at *
      have hzs := (unhide HR).kept.size
      have hzm : Hid (w.heap.size ≤ wz.heap.size) := hzs
      have HR2 := hide ((unhide HR).row.recs (by decide))
      have bx0 := (unhide HX).cell (i := 0) rfl
      have bx1 := (unhide HX).cell (i := 1) rfl
      have bx2 := (unhide HX).cell (i := 2) rfl
      have bx3 := (unhide HX).cell (i := 3) rfl
      have bx4 := (unhide HX).cell (i := 4) rfl
      have bx5 := (unhide HX).cell (i := 5) rfl
      have sx0 := (unhide HS).cell (i := 0) rfl
      have sx1 := (unhide HS).cell (i := 1) rfl
      have sx2 := (unhide HS).cell (i := 2) rfl
      have hbb := (unhide HX).lt
      have hsb := (unhide HS).lt
      have R1 : Hid (RowB 40 9 eStow wz.heap.size (wz.alloc (.cells #[] 40)).drew (some ⟨wz.heap.size, 0, none⟩) 0 0 ([] : List StowT)) := RowB.below (rowB_new 40 9 eStow wz wz.heap.size (Nat.le_refl _)) (Below.refl _ _).drew
      have R2 : Hid (RowB 40 9 eStow wz.heap.size ((wz.alloc (.cells #[] 40)).alloc (.cells #[.string xs, .int .i64 xw, .int .i64 yc, .bool xo, .int .i64 xf, .int .i64 xt, .int .i64 (j : Int), .int .i64 y, .int .i64 (sm : Int)] 40)).drew (some ⟨wz.heap.size, 0, none⟩) 0 0 ([] : List StowT)) := RowB.below ((rowB_new 40 9 eStow wz wz.heap.size (Nat.le_refl _)).below (Below.alloc1 _ _)) (Below.refl _ _).drew
      have R3' : RowB 40 9 eStow wz.heap.size ((wz.alloc (.cells #[.string xs, .int .i64 xw, .int .i64 yc, .bool xo, .int .i64 xf, .int .i64 xt, .int .i64 (j : Int), .int .i64 y, .int .i64 (sm : Int)] 40)).alloc (.cells #[] 40)) (some ⟨(wz.alloc (.cells #[.string xs, .int .i64 xw, .int .i64 yc, .bool xo, .int .i64 xf, .int .i64 xt, .int .i64 (j : Int), .int .i64 y, .int .i64 (sm : Int)] 40)).heap.size, 0, none⟩) 0 0 ([] : List StowT) := rowB_new 40 9 eStow (wz.alloc (.cells #[.string xs, .int .i64 xw, .int .i64 yc, .bool xo, .int .i64 xf, .int .i64 xt, .int .i64 (j : Int), .int .i64 y, .int .i64 (sm : Int)] 40)) wz.heap.size (by simp)
      simp only [World.size_alloc] at R3'
      have R3 : Hid (RowB 40 9 eStow wz.heap.size ((wz.alloc (.cells #[.string xs, .int .i64 xw, .int .i64 yc, .bool xo, .int .i64 xf, .int .i64 xt, .int .i64 (j : Int), .int .i64 y, .int .i64 (sm : Int)] 40)).alloc (.cells #[] 40)).drew (some ⟨wz.heap.size + 1, 0, none⟩) 0 0 ([] : List StowT)) := RowB.below R3' (Below.refl _ _).drew
      have HB1 : Hid (Below wz.heap.size wz (wz.alloc (.cells #[] 40)).drew) := (Below.alloc1 _ _).drew
      have HB2 : Hid (Below wz.heap.size wz ((wz.alloc (.cells #[] 40)).alloc (.cells #[.string xs, .int .i64 xw, .int .i64 yc, .bool xo, .int .i64 xf, .int .i64 xt, .int .i64 (j : Int), .int .i64 y, .int .i64 (sm : Int)] 40)).drew) := (Below.step (Below.alloc1 _ _) (Below.alloc1 _ _)).drew
      have HB3 : Hid (Below wz.heap.size wz ((wz.alloc (.cells #[.string xs, .int .i64 xw, .int .i64 yc, .bool xo, .int .i64 xf, .int .i64 xt, .int .i64 (j : Int), .int .i64 y, .int .i64 (sm : Int)] 40)).alloc (.cells #[] 40)).drew) := (Below.step (Below.alloc1 _ _) (Below.alloc1 _ _)).drew
      have D1 := hide ((unhide HR2).below (unhide HB1))
      have D2 := hide ((unhide HR2).below (unhide HB2))
      have D3 := hide ((unhide HR2).below (unhide HB3))
      have G2 : Hid (OwnV ((wz.alloc (.cells #[] 40)).alloc (.cells #[.string xs, .int .i64 xw, .int .i64 yc, .bool xo, .int .i64 xf, .int .i64 xt, .int .i64 (j : Int), .int .i64 y, .int .i64 (sm : Int)] 40)).drew (wz.heap.size + 1) [.string xs, .int .i64 xw, .int .i64 yc, .bool xo, .int .i64 xf, .int .i64 xt, .int .i64 (j : Int), .int .i64 y, .int .i64 (sm : Int)]) := by
        have h := ownV_alloc (wz.alloc (.cells #[] 40)) #[.string xs, .int .i64 xw, .int .i64 yc, .bool xo, .int .i64 xf, .int .i64 xt, .int .i64 (j : Int), .int .i64 y, .int .i64 (sm : Int)] 40
        simp only [World.size_alloc] at h
        exact h.drew
      have G3 : Hid (OwnV ((wz.alloc (.cells #[.string xs, .int .i64 xw, .int .i64 yc, .bool xo, .int .i64 xf, .int .i64 xt, .int .i64 (j : Int), .int .i64 y, .int .i64 (sm : Int)] 40)).alloc (.cells #[] 40)).drew wz.heap.size [.string xs, .int .i64 xw, .int .i64 yc, .bool xo, .int .i64 xf, .int .i64 xt, .int .i64 (j : Int), .int .i64 y, .int .i64 (sm : Int)]) := (OwnV.alloc (ownV_alloc wz #[.string xs, .int .i64 xw, .int .i64 yc, .bool xo, .int .i64 xf, .int .i64 xt, .int .i64 (j : Int), .int .i64 y, .int .i64 (sm : Int)] 40) _).drew
      clear R3'
      go_region_held3 (fun z => z.cell? ⟨gx, 0, none⟩ = some (.string xs) ∧ z.cell? ⟨gx, 1, none⟩ = some (.int .i64 xw) ∧ z.cell? ⟨gx, 2, none⟩ = some (.int .i64 yc) ∧ z.cell? ⟨gx, 3, none⟩ = some (.bool xo) ∧ z.cell? ⟨gx, 4, none⟩ = some (.int .i64 xf) ∧ z.cell? ⟨gx, 5, none⟩ = some (.int .i64 xt) ∧ z.cell? ⟨gs, 0, none⟩ = some (.int .i64 (j : Int)) ∧ z.cell? ⟨gs, 1, none⟩ = some (.int .i64 y) ∧ z.cell? ⟨gs, 2, none⟩ = some (.int .i64 (sm : Int))) (go_keep) (first | (refine step_appAll tyStow _ (by rfl) (.tmp 96) (.tmp 97) (by rfl) wz.heap.size (some ⟨wz.heap.size, 0, none⟩) 0 0 [] (by rfl) (unhide R1) (by simp <;> omega) (by omega) ro m c L (by rfl) (unhide D1) (by omega) ?_; intro ao2 cap2 wa hL hK; rw [Nat.zero_add m] at hL ⊢; have HLa : Hid (RowB 40 9 eStow wz.heap.size wa ao2 m cap2 L) := hL; have HBa : Hid (Below wz.heap.size wz wa) := (onRowV (unhide HB1) (unhide R1) (by decide) (by simp <;> omega) hK); have hza := (unhide HBa).size; have pb0 := ((unhide HBa).cell (lt_of_cell bx0)).trans bx0; have pb1 := ((unhide HBa).cell (lt_of_cell bx1)).trans bx1; have pb2 := ((unhide HBa).cell (lt_of_cell bx2)).trans bx2; have pb3 := ((unhide HBa).cell (lt_of_cell bx3)).trans bx3; have pb4 := ((unhide HBa).cell (lt_of_cell bx4)).trans bx4; have pb5 := ((unhide HBa).cell (lt_of_cell bx5)).trans bx5; have ps0 := ((unhide HBa).cell (lt_of_cell sx0)).trans sx0; have ps1 := ((unhide HBa).cell (lt_of_cell sx1)).trans sx1; have ps2 := ((unhide HBa).cell (lt_of_cell sx2)).trans sx2; clear hL hK) | (refine step_appAll tyStow _ (by rfl) (.tmp 96) (.tmp 97) (by rfl) wz.heap.size (some ⟨wz.heap.size, 0, none⟩) 0 0 [] (by rfl) (unhide R2) (by simp <;> omega) (by omega) ro m c L (by rfl) (unhide D2) (by omega) ?_; intro ao2 cap2 wa hL hK; rw [Nat.zero_add m] at hL ⊢; have HLa : Hid (RowB 40 9 eStow wz.heap.size wa ao2 m cap2 L) := hL; have HBa : Hid (Below wz.heap.size wz wa) := (onRowV (unhide HB2) (unhide R2) (by decide) (by simp <;> omega) hK); have hza := (unhide HBa).size; have HG2 : Hid (OwnV wa (wz.heap.size + 1) [.string xs, .int .i64 xw, .int .i64 yc, .bool xo, .int .i64 xf, .int .i64 xt, .int .i64 (j : Int), .int .i64 y, .int .i64 (sm : Int)]) := ((unhide G2).kept hK (fun e => by simp only [Option.some.injEq, Addr.mk.injEq, and_true] at e; omega)); have pb0 := ((unhide HBa).cell (lt_of_cell bx0)).trans bx0; have pb1 := ((unhide HBa).cell (lt_of_cell bx1)).trans bx1; have pb2 := ((unhide HBa).cell (lt_of_cell bx2)).trans bx2; have pb3 := ((unhide HBa).cell (lt_of_cell bx3)).trans bx3; have pb4 := ((unhide HBa).cell (lt_of_cell bx4)).trans bx4; have pb5 := ((unhide HBa).cell (lt_of_cell bx5)).trans bx5; have ps0 := ((unhide HBa).cell (lt_of_cell sx0)).trans sx0; have ps1 := ((unhide HBa).cell (lt_of_cell sx1)).trans sx1; have ps2 := ((unhide HBa).cell (lt_of_cell sx2)).trans sx2; clear hL hK) | (refine step_appAll tyStow _ (by rfl) (.tmp 96) (.tmp 97) (by rfl) wz.heap.size (some ⟨wz.heap.size + 1, 0, none⟩) 0 0 [] (by rfl) (unhide R3) (by simp <;> omega) (by omega) ro m c L (by rfl) (unhide D3) (by omega) ?_; intro ao2 cap2 wa hL hK; rw [Nat.zero_add m] at hL ⊢; have HLa : Hid (RowB 40 9 eStow wz.heap.size wa ao2 m cap2 L) := hL; have HBa : Hid (Below wz.heap.size wz wa) := (onRowV (unhide HB3) (unhide R3) (by decide) (by simp <;> omega) hK); have hza := (unhide HBa).size; have HG3 : Hid (OwnV wa (wz.heap.size) [.string xs, .int .i64 xw, .int .i64 yc, .bool xo, .int .i64 xf, .int .i64 xt, .int .i64 (j : Int), .int .i64 y, .int .i64 (sm : Int)]) := ((unhide G3).kept hK (fun e => by simp only [Option.some.injEq, Addr.mk.injEq, and_true] at e; omega)); have pb0 := ((unhide HBa).cell (lt_of_cell bx0)).trans bx0; have pb1 := ((unhide HBa).cell (lt_of_cell bx1)).trans bx1; have pb2 := ((unhide HBa).cell (lt_of_cell bx2)).trans bx2; have pb3 := ((unhide HBa).cell (lt_of_cell bx3)).trans bx3; have pb4 := ((unhide HBa).cell (lt_of_cell bx4)).trans bx4; have pb5 := ((unhide HBa).cell (lt_of_cell bx5)).trans bx5; have ps0 := ((unhide HBa).cell (lt_of_cell sx0)).trans sx0; have ps1 := ((unhide HBa).cell (lt_of_cell sx1)).trans sx1; have ps2 := ((unhide HBa).cell (lt_of_cell sx2)).trans sx2; clear hL hK) | (refine step_appRow tyStow _ (by rfl) (.tmp 98) (.tmp 102) (by rfl) wz.heap.size ao2 m cap2 L (by rfl) ((unhide HLa).below (Below.alloc1 wa (.cells #[.string xs, .int .i64 xw, .int .i64 yc, .bool xo, .int .i64 xf, .int .i64 xt, .int .i64 (j : Int), .int .i64 y, .int .i64 (sm : Int)] 40))) (Nat.le_trans (unhide HBa).size (by simp)) (by omega) (wa.heap.size) (xs, xw, yc, xo, xf, xt, (j : Int), y, (sm : Int)) 1 (by rfl) (ownV_alloc wa #[.string xs, .int .i64 xw, .int .i64 yc, .bool xo, .int .i64 xf, .int .i64 xt, .int .i64 (j : Int), .int .i64 y, .int .i64 (sm : Int)] 40) ?_; intro g3 cap3 wb hL hK hBg hat; have HLb := hide hL; have HBb : Hid (Below wz.heap.size wz wb) := (onRowV (Below.step (unhide HBa) (Below.alloc1 wa (.cells #[.string xs, .int .i64 xw, .int .i64 yc, .bool xo, .int .i64 xf, .int .i64 xt, .int .i64 (j : Int), .int .i64 y, .int .i64 (sm : Int)] 40))) ((unhide HLa).below (Below.alloc1 wa (.cells #[.string xs, .int .i64 xw, .int .i64 yc, .bool xo, .int .i64 xf, .int .i64 xt, .int .i64 (j : Int), .int .i64 y, .int .i64 (sm : Int)] 40))) (by decide) (Nat.le_trans (unhide HBa).size (by simp)) hK); have qb0 := ((unhide HBb).cell (lt_of_cell bx0)).trans bx0; have qb1 := ((unhide HBb).cell (lt_of_cell bx1)).trans bx1; have qb2 := ((unhide HBb).cell (lt_of_cell bx2)).trans bx2; have qb3 := ((unhide HBb).cell (lt_of_cell bx3)).trans bx3; have qb4 := ((unhide HBb).cell (lt_of_cell bx4)).trans bx4; have qb5 := ((unhide HBb).cell (lt_of_cell bx5)).trans bx5; have qs0 := ((unhide HBb).cell (lt_of_cell sx0)).trans sx0; have qs1 := ((unhide HBb).cell (lt_of_cell sx1)).trans sx1; have qs2 := ((unhide HBb).cell (lt_of_cell sx2)).trans sx2; clear hL hK hat hBg) | (refine step_appRow tyStow _ (by rfl) (.tmp 98) (.tmp 102) (by rfl) wz.heap.size ao2 m cap2 L (by rfl) (RowB.below ((unhide HLa).below (Below.alloc1 wa (.cells #[.string xs, .int .i64 xw, .int .i64 yc, .bool xo, .int .i64 xf, .int .i64 xt, .int .i64 (j : Int), .int .i64 y, .int .i64 (sm : Int)] 40))) (Below.refl _ _).drew) (Nat.le_trans (unhide HBa).size (by simp)) (by omega) (wa.heap.size) (xs, xw, yc, xo, xf, xt, (j : Int), y, (sm : Int)) 1 (by rfl) ((ownV_alloc wa #[.string xs, .int .i64 xw, .int .i64 yc, .bool xo, .int .i64 xf, .int .i64 xt, .int .i64 (j : Int), .int .i64 y, .int .i64 (sm : Int)] 40).drew) ?_; intro g3 cap3 wb hL hK hBg hat; have HLb := hide hL; have HBb : Hid (Below wz.heap.size wz wb) := (onRowV ((Below.step (unhide HBa) (Below.alloc1 wa (.cells #[.string xs, .int .i64 xw, .int .i64 yc, .bool xo, .int .i64 xf, .int .i64 xt, .int .i64 (j : Int), .int .i64 y, .int .i64 (sm : Int)] 40))).drew) (RowB.below ((unhide HLa).below (Below.alloc1 wa (.cells #[.string xs, .int .i64 xw, .int .i64 yc, .bool xo, .int .i64 xf, .int .i64 xt, .int .i64 (j : Int), .int .i64 y, .int .i64 (sm : Int)] 40))) (Below.refl _ _).drew) (by decide) (Nat.le_trans (unhide HBa).size (by simp)) hK); have qb0 := ((unhide HBb).cell (lt_of_cell bx0)).trans bx0; have qb1 := ((unhide HBb).cell (lt_of_cell bx1)).trans bx1; have qb2 := ((unhide HBb).cell (lt_of_cell bx2)).trans bx2; have qb3 := ((unhide HBb).cell (lt_of_cell bx3)).trans bx3; have qb4 := ((unhide HBb).cell (lt_of_cell bx4)).trans bx4; have qb5 := ((unhide HBb).cell (lt_of_cell bx5)).trans bx5; have qs0 := ((unhide HBb).cell (lt_of_cell sx0)).trans sx0; have qs1 := ((unhide HBb).cell (lt_of_cell sx1)).trans sx1; have qs2 := ((unhide HBb).cell (lt_of_cell sx2)).trans sx2; clear hL hK hat hBg) | (refine step_appRow tyStow _ (by rfl) (.tmp 98) (.tmp 102) (by rfl) wz.heap.size ao2 m cap2 L (by rfl) (unhide HLa) ((unhide HBa).size) (by omega) (wz.heap.size + 1) (xs, xw, yc, xo, xf, xt, (j : Int), y, (sm : Int)) 1 (by rfl) (unhide HG2) ?_; intro g3 cap3 wb hL hK hBg hat; have HLb := hide hL; have HBb : Hid (Below wz.heap.size wz wb) := (onRowV (unhide HBa) (unhide HLa) (by decide) ((unhide HBa).size) hK); have qb0 := ((unhide HBb).cell (lt_of_cell bx0)).trans bx0; have qb1 := ((unhide HBb).cell (lt_of_cell bx1)).trans bx1; have qb2 := ((unhide HBb).cell (lt_of_cell bx2)).trans bx2; have qb3 := ((unhide HBb).cell (lt_of_cell bx3)).trans bx3; have qb4 := ((unhide HBb).cell (lt_of_cell bx4)).trans bx4; have qb5 := ((unhide HBb).cell (lt_of_cell bx5)).trans bx5; have qs0 := ((unhide HBb).cell (lt_of_cell sx0)).trans sx0; have qs1 := ((unhide HBb).cell (lt_of_cell sx1)).trans sx1; have qs2 := ((unhide HBb).cell (lt_of_cell sx2)).trans sx2; clear hL hK hat hBg) | (refine step_appRow tyStow _ (by rfl) (.tmp 98) (.tmp 102) (by rfl) wz.heap.size ao2 m cap2 L (by rfl) (RowB.below (unhide HLa) (Below.refl _ _).drew) ((unhide HBa).size) (by omega) (wz.heap.size + 1) (xs, xw, yc, xo, xf, xt, (j : Int), y, (sm : Int)) 1 (by rfl) ((unhide HG2).drew) ?_; intro g3 cap3 wb hL hK hBg hat; have HLb := hide hL; have HBb : Hid (Below wz.heap.size wz wb) := (onRowV ((unhide HBa).drew) (RowB.below (unhide HLa) (Below.refl _ _).drew) (by decide) ((unhide HBa).size) hK); have qb0 := ((unhide HBb).cell (lt_of_cell bx0)).trans bx0; have qb1 := ((unhide HBb).cell (lt_of_cell bx1)).trans bx1; have qb2 := ((unhide HBb).cell (lt_of_cell bx2)).trans bx2; have qb3 := ((unhide HBb).cell (lt_of_cell bx3)).trans bx3; have qb4 := ((unhide HBb).cell (lt_of_cell bx4)).trans bx4; have qb5 := ((unhide HBb).cell (lt_of_cell bx5)).trans bx5; have qs0 := ((unhide HBb).cell (lt_of_cell sx0)).trans sx0; have qs1 := ((unhide HBb).cell (lt_of_cell sx1)).trans sx1; have qs2 := ((unhide HBb).cell (lt_of_cell sx2)).trans sx2; clear hL hK hat hBg) | (refine step_appRow tyStow _ (by rfl) (.tmp 98) (.tmp 102) (by rfl) wz.heap.size ao2 m cap2 L (by rfl) (unhide HLa) ((unhide HBa).size) (by omega) (wz.heap.size) (xs, xw, yc, xo, xf, xt, (j : Int), y, (sm : Int)) 1 (by rfl) (unhide HG3) ?_; intro g3 cap3 wb hL hK hBg hat; have HLb := hide hL; have HBb : Hid (Below wz.heap.size wz wb) := (onRowV (unhide HBa) (unhide HLa) (by decide) ((unhide HBa).size) hK); have qb0 := ((unhide HBb).cell (lt_of_cell bx0)).trans bx0; have qb1 := ((unhide HBb).cell (lt_of_cell bx1)).trans bx1; have qb2 := ((unhide HBb).cell (lt_of_cell bx2)).trans bx2; have qb3 := ((unhide HBb).cell (lt_of_cell bx3)).trans bx3; have qb4 := ((unhide HBb).cell (lt_of_cell bx4)).trans bx4; have qb5 := ((unhide HBb).cell (lt_of_cell bx5)).trans bx5; have qs0 := ((unhide HBb).cell (lt_of_cell sx0)).trans sx0; have qs1 := ((unhide HBb).cell (lt_of_cell sx1)).trans sx1; have qs2 := ((unhide HBb).cell (lt_of_cell sx2)).trans sx2; clear hL hK hat hBg) | (refine step_appRow tyStow _ (by rfl) (.tmp 98) (.tmp 102) (by rfl) wz.heap.size ao2 m cap2 L (by rfl) (RowB.below (unhide HLa) (Below.refl _ _).drew) ((unhide HBa).size) (by omega) (wz.heap.size) (xs, xw, yc, xo, xf, xt, (j : Int), y, (sm : Int)) 1 (by rfl) ((unhide HG3).drew) ?_; intro g3 cap3 wb hL hK hBg hat; have HLb := hide hL; have HBb : Hid (Below wz.heap.size wz wb) := (onRowV ((unhide HBa).drew) (RowB.below (unhide HLa) (Below.refl _ _).drew) (by decide) ((unhide HBa).size) hK); have qb0 := ((unhide HBb).cell (lt_of_cell bx0)).trans bx0; have qb1 := ((unhide HBb).cell (lt_of_cell bx1)).trans bx1; have qb2 := ((unhide HBb).cell (lt_of_cell bx2)).trans bx2; have qb3 := ((unhide HBb).cell (lt_of_cell bx3)).trans bx3; have qb4 := ((unhide HBb).cell (lt_of_cell bx4)).trans bx4; have qb5 := ((unhide HBb).cell (lt_of_cell bx5)).trans bx5; have qs0 := ((unhide HBb).cell (lt_of_cell sx0)).trans sx0; have qs1 := ((unhide HBb).cell (lt_of_cell sx1)).trans sx1; have qs2 := ((unhide HBb).cell (lt_of_cell sx2)).trans sx2; clear hL hK hat hBg))
      all_goals
        replace HR := hide ((unhide HR).step (unhide HBb))
        have HRb := hide ((unhide HLb).recs (by decide))
        have HHb := hide (unhide HBAY _ (unhide HR).kept)
        go_wp2_with fail
        refine (specStowCode_any _ _ H (L ++ [(xs, xw, yc, xo, xf, xt, (j : Int), y, (sm : Int))]) _ (unhide HHb) (unhide HRb)).mono ?_
        rintro e W20 ⟨rfl, hb⟩
        replace HR := hide ((unhide HR).step hb)
        replace HLb := hide ((unhide HLb).below hb)
        clear hb HRb HHb HBb
        generalize (stowC H (L ++ [(xs, xw, yc, xo, xf, xt, (j : Int), y, (sm : Int))])).1 = cd
        generalize (stowC H (L ++ [(xs, xw, yc, xo, xf, xt, (j : Int), y, (sm : Int))])).2 = ce
        have HF : Hid (Rd3 cb n v w W20 (some ⟨g3, 0, none⟩) (m + 1) cap3 (L ++ [(xs, xw, yc, xo, xf, xt, (j : Int), y, (sm : Int))])) := ⟨(unhide HLb).mono (unhide hzm), (unhide HR).cur, (unhide HR).kept⟩
        clear HLb
        by_cases hcd : cd = 0
        · subst hcd
          go_wp2
          go_roundg k
          case measure => omega
          case rel => exact ⟨k, m + 1, cap3, some ⟨g3, 0, none⟩, (L ++ [(xs, xw, yc, xo, xf, xt, (j : Int), y, (sm : Int))]), rfl, by go_num, rfl, by omega, by omega, unhide HF⟩
        · have hcb : (cd == 0) = false := by simpa using hcd
          go_wp2_with fail
          refine (unhide QO _ (unhide HR).cur 25 (by omega) (by omega)).mono ?_
          rintro e W21 ⟨q3, rfl, hC, hK⟩
          replace HR := hide ((unhide HR).draw hcl hC hK)
          replace HF := hide ((unhide HF).draw hcl hC hK)
          clear hC hK
          cases q3
          · go_wp2
            go_roundg k
            case measure => omega
            case rel => exact ⟨k, m, c, ro, L, rfl, by go_num, rfl, by omega, hm10, unhide HR⟩
          · go_wp2
            go_roundg k
            case measure => omega
            case rel => exact ⟨k, m + 1, cap3, some ⟨g3, 0, none⟩, (L ++ [(xs, xw, yc, xo, xf, xt, (j : Int), y, (sm : Int))]), rfl, by go_num, rfl, by omega, by omega, unhide HF⟩
    · obtain ⟨s1, hsm⟩ : ∃ s1, sm = s1 + 1 := ⟨sm - 1, by omega⟩
      have hs0d : (0 : Int) < (sm : Int) := by omega
      have hsi0 : (0 : Int) ≤ (s1 : Int) := by omega
      have hsi1 : (s1 : Int) < (sm : Int) := by omega
      have hsi2 : s1 < sm := by omega
      have hsi4 : IntKind.i64.wrap ((sm : Int) - 1) = (s1 : Int) := by rw [IntKind.wrap_i64]; omega
      have HSM := hide hsm
      clear hsm
      rcases (unhide HST).parts (by decide) with ⟨_, e0, _⟩ | ⟨sb, esb, hsb3, -⟩
      · exact absurd e0 (by omega)
      subst esb
      have HSB := hide hsb3
      clear hsb3
      obtain ⟨so', scp', e1, hsl, -, hcc⟩ := (unhide HST).recs (by decide)
      simp only [Value.slice.injEq] at e1
      obtain ⟨rfl, hsl1, rfl⟩ := e1
      obtain ⟨sb', sof, z0, sw, z2, z3, z4, z5, e2, -, ks1, -, -, -, -, -⟩ := recBoxAt hcc (show s1 < _ by have := unhide HSM; omega)
      simp only [Option.some.injEq, Addr.mk.injEq, and_true] at e2
      obtain ⟨rfl, rfl⟩ := e2
      rw [Nat.zero_add] at ks1
      clear hcc hsl hsl1
      by_cases hgt : sw < xw
      · have CST := hide fun W (hK : Kept (fun b => b = cb) wc.drew W) => ((World.cell?_of_block (w := wc.drew) (a := ⟨sb, s1 * 6 + 1, none⟩) (hK.block sb (lt_of_cell ks1) (by have := unhide HSB; omega))).trans ks1 : W.cell? ⟨sb, s1 * 6 + 1, none⟩ = some (.int .i64 sw))
        have hgtd : decide (sw < xw) = true := decide_eq_true hgt
        go_region_held3 (fun z => z.cell? ⟨gx, 1, none⟩ = some (.int .i64 xw) ∧ z.cell? ⟨sb, s1 * 6 + 1, none⟩ = some (.int .i64 sw)) (go_keep) (first
          | (go_at_call 15; refine (unhide QO _ (unhide HR).cur 20 (by omega) (by omega)).mono ?_; rintro e W10 ⟨q2, rfl, hC, hK⟩; replace HR := hide ((unhide HR).draw hcl hC hK); replace HS := hide ((unhide HS).kept hK hgsc); replace HX := hide ((unhide HX).kept hK hgxc); replace ks1 := unhide CST _ hK; clear hC hK kx1 CST; have kx1 := (unhide HX).cell (i := 1) rfl; have fx1 := (unhide HX).frozen 1))
        cases q2
        · go_upto_region 15 with (fail)
          replace HR := hide ((unhide HR).setc (i := 1) (u := .int .i64 sw) hcl hgxw (unhide HNX))
          replace HS := hide (ownFar (g' := gx) (i := 1) (u := .int .i64 sw) (unhide HS) (by omega))
          have HX2 := hide ((unhide HX).set 1 (.int .i64 sw) (by simp))
          simp only [List.set] at HX2
          generalize W10.setCell ⟨gx, 1, none⟩ (.int .i64 sw) = W11 at *
          clear HX ks1 kx1 fx1
          have HX := HX2
          clear HX2
          generalize W11 = wz at *
          have hzs := (unhide HR).kept.size
          have hzm : Hid (w.heap.size ≤ wz.heap.size) := hzs
          have HR2 := hide ((unhide HR).row.recs (by decide))
          have bx0 := (unhide HX).cell (i := 0) rfl
          have bx1 := (unhide HX).cell (i := 1) rfl
          have bx2 := (unhide HX).cell (i := 2) rfl
          have bx3 := (unhide HX).cell (i := 3) rfl
          have bx4 := (unhide HX).cell (i := 4) rfl
          have bx5 := (unhide HX).cell (i := 5) rfl
          have sx0 := (unhide HS).cell (i := 0) rfl
          have sx1 := (unhide HS).cell (i := 1) rfl
          have sx2 := (unhide HS).cell (i := 2) rfl
          have hbb := (unhide HX).lt
          have hsb := (unhide HS).lt
          have R1 : Hid (RowB 40 9 eStow wz.heap.size (wz.alloc (.cells #[] 40)).drew (some ⟨wz.heap.size, 0, none⟩) 0 0 ([] : List StowT)) := RowB.below (rowB_new 40 9 eStow wz wz.heap.size (Nat.le_refl _)) (Below.refl _ _).drew
          have R2 : Hid (RowB 40 9 eStow wz.heap.size ((wz.alloc (.cells #[] 40)).alloc (.cells #[.string xs, .int .i64 sw, .int .i64 yc, .bool xo, .int .i64 xf, .int .i64 xt, .int .i64 (j : Int), .int .i64 y, .int .i64 (sm : Int)] 40)).drew (some ⟨wz.heap.size, 0, none⟩) 0 0 ([] : List StowT)) := RowB.below ((rowB_new 40 9 eStow wz wz.heap.size (Nat.le_refl _)).below (Below.alloc1 _ _)) (Below.refl _ _).drew
          have R3' : RowB 40 9 eStow wz.heap.size ((wz.alloc (.cells #[.string xs, .int .i64 sw, .int .i64 yc, .bool xo, .int .i64 xf, .int .i64 xt, .int .i64 (j : Int), .int .i64 y, .int .i64 (sm : Int)] 40)).alloc (.cells #[] 40)) (some ⟨(wz.alloc (.cells #[.string xs, .int .i64 sw, .int .i64 yc, .bool xo, .int .i64 xf, .int .i64 xt, .int .i64 (j : Int), .int .i64 y, .int .i64 (sm : Int)] 40)).heap.size, 0, none⟩) 0 0 ([] : List StowT) := rowB_new 40 9 eStow (wz.alloc (.cells #[.string xs, .int .i64 sw, .int .i64 yc, .bool xo, .int .i64 xf, .int .i64 xt, .int .i64 (j : Int), .int .i64 y, .int .i64 (sm : Int)] 40)) wz.heap.size (by simp)
          simp only [World.size_alloc] at R3'
          have R3 : Hid (RowB 40 9 eStow wz.heap.size ((wz.alloc (.cells #[.string xs, .int .i64 sw, .int .i64 yc, .bool xo, .int .i64 xf, .int .i64 xt, .int .i64 (j : Int), .int .i64 y, .int .i64 (sm : Int)] 40)).alloc (.cells #[] 40)).drew (some ⟨wz.heap.size + 1, 0, none⟩) 0 0 ([] : List StowT)) := RowB.below R3' (Below.refl _ _).drew
          have HB1 : Hid (Below wz.heap.size wz (wz.alloc (.cells #[] 40)).drew) := (Below.alloc1 _ _).drew
          have HB2 : Hid (Below wz.heap.size wz ((wz.alloc (.cells #[] 40)).alloc (.cells #[.string xs, .int .i64 sw, .int .i64 yc, .bool xo, .int .i64 xf, .int .i64 xt, .int .i64 (j : Int), .int .i64 y, .int .i64 (sm : Int)] 40)).drew) := (Below.step (Below.alloc1 _ _) (Below.alloc1 _ _)).drew
          have HB3 : Hid (Below wz.heap.size wz ((wz.alloc (.cells #[.string xs, .int .i64 sw, .int .i64 yc, .bool xo, .int .i64 xf, .int .i64 xt, .int .i64 (j : Int), .int .i64 y, .int .i64 (sm : Int)] 40)).alloc (.cells #[] 40)).drew) := (Below.step (Below.alloc1 _ _) (Below.alloc1 _ _)).drew
          have D1 := hide ((unhide HR2).below (unhide HB1))
          have D2 := hide ((unhide HR2).below (unhide HB2))
          have D3 := hide ((unhide HR2).below (unhide HB3))
          have G2 : Hid (OwnV ((wz.alloc (.cells #[] 40)).alloc (.cells #[.string xs, .int .i64 sw, .int .i64 yc, .bool xo, .int .i64 xf, .int .i64 xt, .int .i64 (j : Int), .int .i64 y, .int .i64 (sm : Int)] 40)).drew (wz.heap.size + 1) [.string xs, .int .i64 sw, .int .i64 yc, .bool xo, .int .i64 xf, .int .i64 xt, .int .i64 (j : Int), .int .i64 y, .int .i64 (sm : Int)]) := by
            have h := ownV_alloc (wz.alloc (.cells #[] 40)) #[.string xs, .int .i64 sw, .int .i64 yc, .bool xo, .int .i64 xf, .int .i64 xt, .int .i64 (j : Int), .int .i64 y, .int .i64 (sm : Int)] 40
            simp only [World.size_alloc] at h
            exact h.drew
          have G3 : Hid (OwnV ((wz.alloc (.cells #[.string xs, .int .i64 sw, .int .i64 yc, .bool xo, .int .i64 xf, .int .i64 xt, .int .i64 (j : Int), .int .i64 y, .int .i64 (sm : Int)] 40)).alloc (.cells #[] 40)).drew wz.heap.size [.string xs, .int .i64 sw, .int .i64 yc, .bool xo, .int .i64 xf, .int .i64 xt, .int .i64 (j : Int), .int .i64 y, .int .i64 (sm : Int)]) := (OwnV.alloc (ownV_alloc wz #[.string xs, .int .i64 sw, .int .i64 yc, .bool xo, .int .i64 xf, .int .i64 xt, .int .i64 (j : Int), .int .i64 y, .int .i64 (sm : Int)] 40) _).drew
          clear R3'
          go_region_held3 (fun z => z.cell? ⟨gx, 0, none⟩ = some (.string xs) ∧ z.cell? ⟨gx, 1, none⟩ = some (.int .i64 sw) ∧ z.cell? ⟨gx, 2, none⟩ = some (.int .i64 yc) ∧ z.cell? ⟨gx, 3, none⟩ = some (.bool xo) ∧ z.cell? ⟨gx, 4, none⟩ = some (.int .i64 xf) ∧ z.cell? ⟨gx, 5, none⟩ = some (.int .i64 xt) ∧ z.cell? ⟨gs, 0, none⟩ = some (.int .i64 (j : Int)) ∧ z.cell? ⟨gs, 1, none⟩ = some (.int .i64 y) ∧ z.cell? ⟨gs, 2, none⟩ = some (.int .i64 (sm : Int))) (go_keep) (first | (refine step_appAll tyStow _ (by rfl) (.tmp 96) (.tmp 97) (by rfl) wz.heap.size (some ⟨wz.heap.size, 0, none⟩) 0 0 [] (by rfl) (unhide R1) (by simp <;> omega) (by omega) ro m c L (by rfl) (unhide D1) (by omega) ?_; intro ao2 cap2 wa hL hK; rw [Nat.zero_add m] at hL ⊢; have HLa : Hid (RowB 40 9 eStow wz.heap.size wa ao2 m cap2 L) := hL; have HBa : Hid (Below wz.heap.size wz wa) := (onRowV (unhide HB1) (unhide R1) (by decide) (by simp <;> omega) hK); have hza := (unhide HBa).size; have pb0 := ((unhide HBa).cell (lt_of_cell bx0)).trans bx0; have pb1 := ((unhide HBa).cell (lt_of_cell bx1)).trans bx1; have pb2 := ((unhide HBa).cell (lt_of_cell bx2)).trans bx2; have pb3 := ((unhide HBa).cell (lt_of_cell bx3)).trans bx3; have pb4 := ((unhide HBa).cell (lt_of_cell bx4)).trans bx4; have pb5 := ((unhide HBa).cell (lt_of_cell bx5)).trans bx5; have ps0 := ((unhide HBa).cell (lt_of_cell sx0)).trans sx0; have ps1 := ((unhide HBa).cell (lt_of_cell sx1)).trans sx1; have ps2 := ((unhide HBa).cell (lt_of_cell sx2)).trans sx2; clear hL hK) | (refine step_appAll tyStow _ (by rfl) (.tmp 96) (.tmp 97) (by rfl) wz.heap.size (some ⟨wz.heap.size, 0, none⟩) 0 0 [] (by rfl) (unhide R2) (by simp <;> omega) (by omega) ro m c L (by rfl) (unhide D2) (by omega) ?_; intro ao2 cap2 wa hL hK; rw [Nat.zero_add m] at hL ⊢; have HLa : Hid (RowB 40 9 eStow wz.heap.size wa ao2 m cap2 L) := hL; have HBa : Hid (Below wz.heap.size wz wa) := (onRowV (unhide HB2) (unhide R2) (by decide) (by simp <;> omega) hK); have hza := (unhide HBa).size; have HG2 : Hid (OwnV wa (wz.heap.size + 1) [.string xs, .int .i64 sw, .int .i64 yc, .bool xo, .int .i64 xf, .int .i64 xt, .int .i64 (j : Int), .int .i64 y, .int .i64 (sm : Int)]) := ((unhide G2).kept hK (fun e => by simp only [Option.some.injEq, Addr.mk.injEq, and_true] at e; omega)); have pb0 := ((unhide HBa).cell (lt_of_cell bx0)).trans bx0; have pb1 := ((unhide HBa).cell (lt_of_cell bx1)).trans bx1; have pb2 := ((unhide HBa).cell (lt_of_cell bx2)).trans bx2; have pb3 := ((unhide HBa).cell (lt_of_cell bx3)).trans bx3; have pb4 := ((unhide HBa).cell (lt_of_cell bx4)).trans bx4; have pb5 := ((unhide HBa).cell (lt_of_cell bx5)).trans bx5; have ps0 := ((unhide HBa).cell (lt_of_cell sx0)).trans sx0; have ps1 := ((unhide HBa).cell (lt_of_cell sx1)).trans sx1; have ps2 := ((unhide HBa).cell (lt_of_cell sx2)).trans sx2; clear hL hK) | (refine step_appAll tyStow _ (by rfl) (.tmp 96) (.tmp 97) (by rfl) wz.heap.size (some ⟨wz.heap.size + 1, 0, none⟩) 0 0 [] (by rfl) (unhide R3) (by simp <;> omega) (by omega) ro m c L (by rfl) (unhide D3) (by omega) ?_; intro ao2 cap2 wa hL hK; rw [Nat.zero_add m] at hL ⊢; have HLa : Hid (RowB 40 9 eStow wz.heap.size wa ao2 m cap2 L) := hL; have HBa : Hid (Below wz.heap.size wz wa) := (onRowV (unhide HB3) (unhide R3) (by decide) (by simp <;> omega) hK); have hza := (unhide HBa).size; have HG3 : Hid (OwnV wa (wz.heap.size) [.string xs, .int .i64 sw, .int .i64 yc, .bool xo, .int .i64 xf, .int .i64 xt, .int .i64 (j : Int), .int .i64 y, .int .i64 (sm : Int)]) := ((unhide G3).kept hK (fun e => by simp only [Option.some.injEq, Addr.mk.injEq, and_true] at e; omega)); have pb0 := ((unhide HBa).cell (lt_of_cell bx0)).trans bx0; have pb1 := ((unhide HBa).cell (lt_of_cell bx1)).trans bx1; have pb2 := ((unhide HBa).cell (lt_of_cell bx2)).trans bx2; have pb3 := ((unhide HBa).cell (lt_of_cell bx3)).trans bx3; have pb4 := ((unhide HBa).cell (lt_of_cell bx4)).trans bx4; have pb5 := ((unhide HBa).cell (lt_of_cell bx5)).trans bx5; have ps0 := ((unhide HBa).cell (lt_of_cell sx0)).trans sx0; have ps1 := ((unhide HBa).cell (lt_of_cell sx1)).trans sx1; have ps2 := ((unhide HBa).cell (lt_of_cell sx2)).trans sx2; clear hL hK) | (refine step_appRow tyStow _ (by rfl) (.tmp 98) (.tmp 102) (by rfl) wz.heap.size ao2 m cap2 L (by rfl) ((unhide HLa).below (Below.alloc1 wa (.cells #[.string xs, .int .i64 sw, .int .i64 yc, .bool xo, .int .i64 xf, .int .i64 xt, .int .i64 (j : Int), .int .i64 y, .int .i64 (sm : Int)] 40))) (Nat.le_trans (unhide HBa).size (by simp)) (by omega) (wa.heap.size) (xs, sw, yc, xo, xf, xt, (j : Int), y, (sm : Int)) 1 (by rfl) (ownV_alloc wa #[.string xs, .int .i64 sw, .int .i64 yc, .bool xo, .int .i64 xf, .int .i64 xt, .int .i64 (j : Int), .int .i64 y, .int .i64 (sm : Int)] 40) ?_; intro g3 cap3 wb hL hK hBg hat; have HLb := hide hL; have HBb : Hid (Below wz.heap.size wz wb) := (onRowV (Below.step (unhide HBa) (Below.alloc1 wa (.cells #[.string xs, .int .i64 sw, .int .i64 yc, .bool xo, .int .i64 xf, .int .i64 xt, .int .i64 (j : Int), .int .i64 y, .int .i64 (sm : Int)] 40))) ((unhide HLa).below (Below.alloc1 wa (.cells #[.string xs, .int .i64 sw, .int .i64 yc, .bool xo, .int .i64 xf, .int .i64 xt, .int .i64 (j : Int), .int .i64 y, .int .i64 (sm : Int)] 40))) (by decide) (Nat.le_trans (unhide HBa).size (by simp)) hK); have qb0 := ((unhide HBb).cell (lt_of_cell bx0)).trans bx0; have qb1 := ((unhide HBb).cell (lt_of_cell bx1)).trans bx1; have qb2 := ((unhide HBb).cell (lt_of_cell bx2)).trans bx2; have qb3 := ((unhide HBb).cell (lt_of_cell bx3)).trans bx3; have qb4 := ((unhide HBb).cell (lt_of_cell bx4)).trans bx4; have qb5 := ((unhide HBb).cell (lt_of_cell bx5)).trans bx5; have qs0 := ((unhide HBb).cell (lt_of_cell sx0)).trans sx0; have qs1 := ((unhide HBb).cell (lt_of_cell sx1)).trans sx1; have qs2 := ((unhide HBb).cell (lt_of_cell sx2)).trans sx2; clear hL hK hat hBg) | (refine step_appRow tyStow _ (by rfl) (.tmp 98) (.tmp 102) (by rfl) wz.heap.size ao2 m cap2 L (by rfl) (RowB.below ((unhide HLa).below (Below.alloc1 wa (.cells #[.string xs, .int .i64 sw, .int .i64 yc, .bool xo, .int .i64 xf, .int .i64 xt, .int .i64 (j : Int), .int .i64 y, .int .i64 (sm : Int)] 40))) (Below.refl _ _).drew) (Nat.le_trans (unhide HBa).size (by simp)) (by omega) (wa.heap.size) (xs, sw, yc, xo, xf, xt, (j : Int), y, (sm : Int)) 1 (by rfl) ((ownV_alloc wa #[.string xs, .int .i64 sw, .int .i64 yc, .bool xo, .int .i64 xf, .int .i64 xt, .int .i64 (j : Int), .int .i64 y, .int .i64 (sm : Int)] 40).drew) ?_; intro g3 cap3 wb hL hK hBg hat; have HLb := hide hL; have HBb : Hid (Below wz.heap.size wz wb) := (onRowV ((Below.step (unhide HBa) (Below.alloc1 wa (.cells #[.string xs, .int .i64 sw, .int .i64 yc, .bool xo, .int .i64 xf, .int .i64 xt, .int .i64 (j : Int), .int .i64 y, .int .i64 (sm : Int)] 40))).drew) (RowB.below ((unhide HLa).below (Below.alloc1 wa (.cells #[.string xs, .int .i64 sw, .int .i64 yc, .bool xo, .int .i64 xf, .int .i64 xt, .int .i64 (j : Int), .int .i64 y, .int .i64 (sm : Int)] 40))) (Below.refl _ _).drew) (by decide) (Nat.le_trans (unhide HBa).size (by simp)) hK); have qb0 := ((unhide HBb).cell (lt_of_cell bx0)).trans bx0; have qb1 := ((unhide HBb).cell (lt_of_cell bx1)).trans bx1; have qb2 := ((unhide HBb).cell (lt_of_cell bx2)).trans bx2; have qb3 := ((unhide HBb).cell (lt_of_cell bx3)).trans bx3; have qb4 := ((unhide HBb).cell (lt_of_cell bx4)).trans bx4; have qb5 := ((unhide HBb).cell (lt_of_cell bx5)).trans bx5; have qs0 := ((unhide HBb).cell (lt_of_cell sx0)).trans sx0; have qs1 := ((unhide HBb).cell (lt_of_cell sx1)).trans sx1; have qs2 := ((unhide HBb).cell (lt_of_cell sx2)).trans sx2; clear hL hK hat hBg) | (refine step_appRow tyStow _ (by rfl) (.tmp 98) (.tmp 102) (by rfl) wz.heap.size ao2 m cap2 L (by rfl) (unhide HLa) ((unhide HBa).size) (by omega) (wz.heap.size + 1) (xs, sw, yc, xo, xf, xt, (j : Int), y, (sm : Int)) 1 (by rfl) (unhide HG2) ?_; intro g3 cap3 wb hL hK hBg hat; have HLb := hide hL; have HBb : Hid (Below wz.heap.size wz wb) := (onRowV (unhide HBa) (unhide HLa) (by decide) ((unhide HBa).size) hK); have qb0 := ((unhide HBb).cell (lt_of_cell bx0)).trans bx0; have qb1 := ((unhide HBb).cell (lt_of_cell bx1)).trans bx1; have qb2 := ((unhide HBb).cell (lt_of_cell bx2)).trans bx2; have qb3 := ((unhide HBb).cell (lt_of_cell bx3)).trans bx3; have qb4 := ((unhide HBb).cell (lt_of_cell bx4)).trans bx4; have qb5 := ((unhide HBb).cell (lt_of_cell bx5)).trans bx5; have qs0 := ((unhide HBb).cell (lt_of_cell sx0)).trans sx0; have qs1 := ((unhide HBb).cell (lt_of_cell sx1)).trans sx1; have qs2 := ((unhide HBb).cell (lt_of_cell sx2)).trans sx2; clear hL hK hat hBg) | (refine step_appRow tyStow _ (by rfl) (.tmp 98) (.tmp 102) (by rfl) wz.heap.size ao2 m cap2 L (by rfl) (RowB.below (unhide HLa) (Below.refl _ _).drew) ((unhide HBa).size) (by omega) (wz.heap.size + 1) (xs, sw, yc, xo, xf, xt, (j : Int), y, (sm : Int)) 1 (by rfl) ((unhide HG2).drew) ?_; intro g3 cap3 wb hL hK hBg hat; have HLb := hide hL; have HBb : Hid (Below wz.heap.size wz wb) := (onRowV ((unhide HBa).drew) (RowB.below (unhide HLa) (Below.refl _ _).drew) (by decide) ((unhide HBa).size) hK); have qb0 := ((unhide HBb).cell (lt_of_cell bx0)).trans bx0; have qb1 := ((unhide HBb).cell (lt_of_cell bx1)).trans bx1; have qb2 := ((unhide HBb).cell (lt_of_cell bx2)).trans bx2; have qb3 := ((unhide HBb).cell (lt_of_cell bx3)).trans bx3; have qb4 := ((unhide HBb).cell (lt_of_cell bx4)).trans bx4; have qb5 := ((unhide HBb).cell (lt_of_cell bx5)).trans bx5; have qs0 := ((unhide HBb).cell (lt_of_cell sx0)).trans sx0; have qs1 := ((unhide HBb).cell (lt_of_cell sx1)).trans sx1; have qs2 := ((unhide HBb).cell (lt_of_cell sx2)).trans sx2; clear hL hK hat hBg) | (refine step_appRow tyStow _ (by rfl) (.tmp 98) (.tmp 102) (by rfl) wz.heap.size ao2 m cap2 L (by rfl) (unhide HLa) ((unhide HBa).size) (by omega) (wz.heap.size) (xs, sw, yc, xo, xf, xt, (j : Int), y, (sm : Int)) 1 (by rfl) (unhide HG3) ?_; intro g3 cap3 wb hL hK hBg hat; have HLb := hide hL; have HBb : Hid (Below wz.heap.size wz wb) := (onRowV (unhide HBa) (unhide HLa) (by decide) ((unhide HBa).size) hK); have qb0 := ((unhide HBb).cell (lt_of_cell bx0)).trans bx0; have qb1 := ((unhide HBb).cell (lt_of_cell bx1)).trans bx1; have qb2 := ((unhide HBb).cell (lt_of_cell bx2)).trans bx2; have qb3 := ((unhide HBb).cell (lt_of_cell bx3)).trans bx3; have qb4 := ((unhide HBb).cell (lt_of_cell bx4)).trans bx4; have qb5 := ((unhide HBb).cell (lt_of_cell bx5)).trans bx5; have qs0 := ((unhide HBb).cell (lt_of_cell sx0)).trans sx0; have qs1 := ((unhide HBb).cell (lt_of_cell sx1)).trans sx1; have qs2 := ((unhide HBb).cell (lt_of_cell sx2)).trans sx2; clear hL hK hat hBg) | (refine step_appRow tyStow _ (by rfl) (.tmp 98) (.tmp 102) (by rfl) wz.heap.size ao2 m cap2 L (by rfl) (RowB.below (unhide HLa) (Below.refl _ _).drew) ((unhide HBa).size) (by omega) (wz.heap.size) (xs, sw, yc, xo, xf, xt, (j : Int), y, (sm : Int)) 1 (by rfl) ((unhide HG3).drew) ?_; intro g3 cap3 wb hL hK hBg hat; have HLb := hide hL; have HBb : Hid (Below wz.heap.size wz wb) := (onRowV ((unhide HBa).drew) (RowB.below (unhide HLa) (Below.refl _ _).drew) (by decide) ((unhide HBa).size) hK); have qb0 := ((unhide HBb).cell (lt_of_cell bx0)).trans bx0; have qb1 := ((unhide HBb).cell (lt_of_cell bx1)).trans bx1; have qb2 := ((unhide HBb).cell (lt_of_cell bx2)).trans bx2; have qb3 := ((unhide HBb).cell (lt_of_cell bx3)).trans bx3; have qb4 := ((unhide HBb).cell (lt_of_cell bx4)).trans bx4; have qb5 := ((unhide HBb).cell (lt_of_cell bx5)).trans bx5; have qs0 := ((unhide HBb).cell (lt_of_cell sx0)).trans sx0; have qs1 := ((unhide HBb).cell (lt_of_cell sx1)).trans sx1; have qs2 := ((unhide HBb).cell (lt_of_cell sx2)).trans sx2; clear hL hK hat hBg))
          all_goals
            replace HR := hide ((unhide HR).step (unhide HBb))
            have HRb := hide ((unhide HLb).recs (by decide))
            have HHb := hide (unhide HBAY _ (unhide HR).kept)
            go_wp2_with fail
            refine (specStowCode_any _ _ H (L ++ [(xs, sw, yc, xo, xf, xt, (j : Int), y, (sm : Int))]) _ (unhide HHb) (unhide HRb)).mono ?_
            rintro e W20 ⟨rfl, hb⟩
            replace HR := hide ((unhide HR).step hb)
            replace HLb := hide ((unhide HLb).below hb)
            clear hb HRb HHb HBb
            generalize (stowC H (L ++ [(xs, sw, yc, xo, xf, xt, (j : Int), y, (sm : Int))])).1 = cd
            generalize (stowC H (L ++ [(xs, sw, yc, xo, xf, xt, (j : Int), y, (sm : Int))])).2 = ce
            have HF : Hid (Rd3 cb n v w W20 (some ⟨g3, 0, none⟩) (m + 1) cap3 (L ++ [(xs, sw, yc, xo, xf, xt, (j : Int), y, (sm : Int))])) := ⟨(unhide HLb).mono (unhide hzm), (unhide HR).cur, (unhide HR).kept⟩
            clear HLb
            by_cases hcd : cd = 0
            · subst hcd
              go_wp2
              go_roundg k
              case measure => omega
              case rel => exact ⟨k, m + 1, cap3, some ⟨g3, 0, none⟩, (L ++ [(xs, sw, yc, xo, xf, xt, (j : Int), y, (sm : Int))]), rfl, by go_num, rfl, by omega, by omega, unhide HF⟩
            · have hcb : (cd == 0) = false := by simpa using hcd
              go_wp2_with fail
              refine (unhide QO _ (unhide HR).cur 25 (by omega) (by omega)).mono ?_
              rintro e W21 ⟨q3, rfl, hC, hK⟩
              replace HR := hide ((unhide HR).draw hcl hC hK)
              replace HF := hide ((unhide HF).draw hcl hC hK)
              clear hC hK
              cases q3
              · go_wp2
                go_roundg k
                case measure => omega
                case rel => exact ⟨k, m, c, ro, L, rfl, by go_num, rfl, by omega, hm10, unhide HR⟩
              · go_wp2
                go_roundg k
                case measure => omega
                case rel => exact ⟨k, m + 1, cap3, some ⟨g3, 0, none⟩, (L ++ [(xs, sw, yc, xo, xf, xt, (j : Int), y, (sm : Int))]), rfl, by go_num, rfl, by omega, by omega, unhide HF⟩
        · go_upto_region 15 with (fail)
          generalize W10 = wz at *
          have hzs := (unhide HR).kept.size
          have hzm : Hid (w.heap.size ≤ wz.heap.size) := hzs
          have HR2 := hide ((unhide HR).row.recs (by decide))
          have bx0 := (unhide HX).cell (i := 0) rfl
          have bx1 := (unhide HX).cell (i := 1) rfl
          have bx2 := (unhide HX).cell (i := 2) rfl
          have bx3 := (unhide HX).cell (i := 3) rfl
          have bx4 := (unhide HX).cell (i := 4) rfl
          have bx5 := (unhide HX).cell (i := 5) rfl
          have sx0 := (unhide HS).cell (i := 0) rfl
          have sx1 := (unhide HS).cell (i := 1) rfl
          have sx2 := (unhide HS).cell (i := 2) rfl
          have hbb := (unhide HX).lt
          have hsb := (unhide HS).lt
          have R1 : Hid (RowB 40 9 eStow wz.heap.size (wz.alloc (.cells #[] 40)).drew (some ⟨wz.heap.size, 0, none⟩) 0 0 ([] : List StowT)) := RowB.below (rowB_new 40 9 eStow wz wz.heap.size (Nat.le_refl _)) (Below.refl _ _).drew
          have R2 : Hid (RowB 40 9 eStow wz.heap.size ((wz.alloc (.cells #[] 40)).alloc (.cells #[.string xs, .int .i64 xw, .int .i64 yc, .bool xo, .int .i64 xf, .int .i64 xt, .int .i64 (j : Int), .int .i64 y, .int .i64 (sm : Int)] 40)).drew (some ⟨wz.heap.size, 0, none⟩) 0 0 ([] : List StowT)) := RowB.below ((rowB_new 40 9 eStow wz wz.heap.size (Nat.le_refl _)).below (Below.alloc1 _ _)) (Below.refl _ _).drew
          have R3' : RowB 40 9 eStow wz.heap.size ((wz.alloc (.cells #[.string xs, .int .i64 xw, .int .i64 yc, .bool xo, .int .i64 xf, .int .i64 xt, .int .i64 (j : Int), .int .i64 y, .int .i64 (sm : Int)] 40)).alloc (.cells #[] 40)) (some ⟨(wz.alloc (.cells #[.string xs, .int .i64 xw, .int .i64 yc, .bool xo, .int .i64 xf, .int .i64 xt, .int .i64 (j : Int), .int .i64 y, .int .i64 (sm : Int)] 40)).heap.size, 0, none⟩) 0 0 ([] : List StowT) := rowB_new 40 9 eStow (wz.alloc (.cells #[.string xs, .int .i64 xw, .int .i64 yc, .bool xo, .int .i64 xf, .int .i64 xt, .int .i64 (j : Int), .int .i64 y, .int .i64 (sm : Int)] 40)) wz.heap.size (by simp)
          simp only [World.size_alloc] at R3'
          have R3 : Hid (RowB 40 9 eStow wz.heap.size ((wz.alloc (.cells #[.string xs, .int .i64 xw, .int .i64 yc, .bool xo, .int .i64 xf, .int .i64 xt, .int .i64 (j : Int), .int .i64 y, .int .i64 (sm : Int)] 40)).alloc (.cells #[] 40)).drew (some ⟨wz.heap.size + 1, 0, none⟩) 0 0 ([] : List StowT)) := RowB.below R3' (Below.refl _ _).drew
          have HB1 : Hid (Below wz.heap.size wz (wz.alloc (.cells #[] 40)).drew) := (Below.alloc1 _ _).drew
          have HB2 : Hid (Below wz.heap.size wz ((wz.alloc (.cells #[] 40)).alloc (.cells #[.string xs, .int .i64 xw, .int .i64 yc, .bool xo, .int .i64 xf, .int .i64 xt, .int .i64 (j : Int), .int .i64 y, .int .i64 (sm : Int)] 40)).drew) := (Below.step (Below.alloc1 _ _) (Below.alloc1 _ _)).drew
          have HB3 : Hid (Below wz.heap.size wz ((wz.alloc (.cells #[.string xs, .int .i64 xw, .int .i64 yc, .bool xo, .int .i64 xf, .int .i64 xt, .int .i64 (j : Int), .int .i64 y, .int .i64 (sm : Int)] 40)).alloc (.cells #[] 40)).drew) := (Below.step (Below.alloc1 _ _) (Below.alloc1 _ _)).drew
          have D1 := hide ((unhide HR2).below (unhide HB1))
          have D2 := hide ((unhide HR2).below (unhide HB2))
          have D3 := hide ((unhide HR2).below (unhide HB3))
          have G2 : Hid (OwnV ((wz.alloc (.cells #[] 40)).alloc (.cells #[.string xs, .int .i64 xw, .int .i64 yc, .bool xo, .int .i64 xf, .int .i64 xt, .int .i64 (j : Int), .int .i64 y, .int .i64 (sm : Int)] 40)).drew (wz.heap.size + 1) [.string xs, .int .i64 xw, .int .i64 yc, .bool xo, .int .i64 xf, .int .i64 xt, .int .i64 (j : Int), .int .i64 y, .int .i64 (sm : Int)]) := by
            have h := ownV_alloc (wz.alloc (.cells #[] 40)) #[.string xs, .int .i64 xw, .int .i64 yc, .bool xo, .int .i64 xf, .int .i64 xt, .int .i64 (j : Int), .int .i64 y, .int .i64 (sm : Int)] 40
            simp only [World.size_alloc] at h
            exact h.drew
          have G3 : Hid (OwnV ((wz.alloc (.cells #[.string xs, .int .i64 xw, .int .i64 yc, .bool xo, .int .i64 xf, .int .i64 xt, .int .i64 (j : Int), .int .i64 y, .int .i64 (sm : Int)] 40)).alloc (.cells #[] 40)).drew wz.heap.size [.string xs, .int .i64 xw, .int .i64 yc, .bool xo, .int .i64 xf, .int .i64 xt, .int .i64 (j : Int), .int .i64 y, .int .i64 (sm : Int)]) := (OwnV.alloc (ownV_alloc wz #[.string xs, .int .i64 xw, .int .i64 yc, .bool xo, .int .i64 xf, .int .i64 xt, .int .i64 (j : Int), .int .i64 y, .int .i64 (sm : Int)] 40) _).drew
          clear R3'
          go_region_held3 (fun z => z.cell? ⟨gx, 0, none⟩ = some (.string xs) ∧ z.cell? ⟨gx, 1, none⟩ = some (.int .i64 xw) ∧ z.cell? ⟨gx, 2, none⟩ = some (.int .i64 yc) ∧ z.cell? ⟨gx, 3, none⟩ = some (.bool xo) ∧ z.cell? ⟨gx, 4, none⟩ = some (.int .i64 xf) ∧ z.cell? ⟨gx, 5, none⟩ = some (.int .i64 xt) ∧ z.cell? ⟨gs, 0, none⟩ = some (.int .i64 (j : Int)) ∧ z.cell? ⟨gs, 1, none⟩ = some (.int .i64 y) ∧ z.cell? ⟨gs, 2, none⟩ = some (.int .i64 (sm : Int))) (go_keep) (first | (refine step_appAll tyStow _ (by rfl) (.tmp 96) (.tmp 97) (by rfl) wz.heap.size (some ⟨wz.heap.size, 0, none⟩) 0 0 [] (by rfl) (unhide R1) (by simp <;> omega) (by omega) ro m c L (by rfl) (unhide D1) (by omega) ?_; intro ao2 cap2 wa hL hK; rw [Nat.zero_add m] at hL ⊢; have HLa : Hid (RowB 40 9 eStow wz.heap.size wa ao2 m cap2 L) := hL; have HBa : Hid (Below wz.heap.size wz wa) := (onRowV (unhide HB1) (unhide R1) (by decide) (by simp <;> omega) hK); have hza := (unhide HBa).size; have pb0 := ((unhide HBa).cell (lt_of_cell bx0)).trans bx0; have pb1 := ((unhide HBa).cell (lt_of_cell bx1)).trans bx1; have pb2 := ((unhide HBa).cell (lt_of_cell bx2)).trans bx2; have pb3 := ((unhide HBa).cell (lt_of_cell bx3)).trans bx3; have pb4 := ((unhide HBa).cell (lt_of_cell bx4)).trans bx4; have pb5 := ((unhide HBa).cell (lt_of_cell bx5)).trans bx5; have ps0 := ((unhide HBa).cell (lt_of_cell sx0)).trans sx0; have ps1 := ((unhide HBa).cell (lt_of_cell sx1)).trans sx1; have ps2 := ((unhide HBa).cell (lt_of_cell sx2)).trans sx2; clear hL hK) | (refine step_appAll tyStow _ (by rfl) (.tmp 96) (.tmp 97) (by rfl) wz.heap.size (some ⟨wz.heap.size, 0, none⟩) 0 0 [] (by rfl) (unhide R2) (by simp <;> omega) (by omega) ro m c L (by rfl) (unhide D2) (by omega) ?_; intro ao2 cap2 wa hL hK; rw [Nat.zero_add m] at hL ⊢; have HLa : Hid (RowB 40 9 eStow wz.heap.size wa ao2 m cap2 L) := hL; have HBa : Hid (Below wz.heap.size wz wa) := (onRowV (unhide HB2) (unhide R2) (by decide) (by simp <;> omega) hK); have hza := (unhide HBa).size; have HG2 : Hid (OwnV wa (wz.heap.size + 1) [.string xs, .int .i64 xw, .int .i64 yc, .bool xo, .int .i64 xf, .int .i64 xt, .int .i64 (j : Int), .int .i64 y, .int .i64 (sm : Int)]) := ((unhide G2).kept hK (fun e => by simp only [Option.some.injEq, Addr.mk.injEq, and_true] at e; omega)); have pb0 := ((unhide HBa).cell (lt_of_cell bx0)).trans bx0; have pb1 := ((unhide HBa).cell (lt_of_cell bx1)).trans bx1; have pb2 := ((unhide HBa).cell (lt_of_cell bx2)).trans bx2; have pb3 := ((unhide HBa).cell (lt_of_cell bx3)).trans bx3; have pb4 := ((unhide HBa).cell (lt_of_cell bx4)).trans bx4; have pb5 := ((unhide HBa).cell (lt_of_cell bx5)).trans bx5; have ps0 := ((unhide HBa).cell (lt_of_cell sx0)).trans sx0; have ps1 := ((unhide HBa).cell (lt_of_cell sx1)).trans sx1; have ps2 := ((unhide HBa).cell (lt_of_cell sx2)).trans sx2; clear hL hK) | (refine step_appAll tyStow _ (by rfl) (.tmp 96) (.tmp 97) (by rfl) wz.heap.size (some ⟨wz.heap.size + 1, 0, none⟩) 0 0 [] (by rfl) (unhide R3) (by simp <;> omega) (by omega) ro m c L (by rfl) (unhide D3) (by omega) ?_; intro ao2 cap2 wa hL hK; rw [Nat.zero_add m] at hL ⊢; have HLa : Hid (RowB 40 9 eStow wz.heap.size wa ao2 m cap2 L) := hL; have HBa : Hid (Below wz.heap.size wz wa) := (onRowV (unhide HB3) (unhide R3) (by decide) (by simp <;> omega) hK); have hza := (unhide HBa).size; have HG3 : Hid (OwnV wa (wz.heap.size) [.string xs, .int .i64 xw, .int .i64 yc, .bool xo, .int .i64 xf, .int .i64 xt, .int .i64 (j : Int), .int .i64 y, .int .i64 (sm : Int)]) := ((unhide G3).kept hK (fun e => by simp only [Option.some.injEq, Addr.mk.injEq, and_true] at e; omega)); have pb0 := ((unhide HBa).cell (lt_of_cell bx0)).trans bx0; have pb1 := ((unhide HBa).cell (lt_of_cell bx1)).trans bx1; have pb2 := ((unhide HBa).cell (lt_of_cell bx2)).trans bx2; have pb3 := ((unhide HBa).cell (lt_of_cell bx3)).trans bx3; have pb4 := ((unhide HBa).cell (lt_of_cell bx4)).trans bx4; have pb5 := ((unhide HBa).cell (lt_of_cell bx5)).trans bx5; have ps0 := ((unhide HBa).cell (lt_of_cell sx0)).trans sx0; have ps1 := ((unhide HBa).cell (lt_of_cell sx1)).trans sx1; have ps2 := ((unhide HBa).cell (lt_of_cell sx2)).trans sx2; clear hL hK) | (refine step_appRow tyStow _ (by rfl) (.tmp 98) (.tmp 102) (by rfl) wz.heap.size ao2 m cap2 L (by rfl) ((unhide HLa).below (Below.alloc1 wa (.cells #[.string xs, .int .i64 xw, .int .i64 yc, .bool xo, .int .i64 xf, .int .i64 xt, .int .i64 (j : Int), .int .i64 y, .int .i64 (sm : Int)] 40))) (Nat.le_trans (unhide HBa).size (by simp)) (by omega) (wa.heap.size) (xs, xw, yc, xo, xf, xt, (j : Int), y, (sm : Int)) 1 (by rfl) (ownV_alloc wa #[.string xs, .int .i64 xw, .int .i64 yc, .bool xo, .int .i64 xf, .int .i64 xt, .int .i64 (j : Int), .int .i64 y, .int .i64 (sm : Int)] 40) ?_; intro g3 cap3 wb hL hK hBg hat; have HLb := hide hL; have HBb : Hid (Below wz.heap.size wz wb) := (onRowV (Below.step (unhide HBa) (Below.alloc1 wa (.cells #[.string xs, .int .i64 xw, .int .i64 yc, .bool xo, .int .i64 xf, .int .i64 xt, .int .i64 (j : Int), .int .i64 y, .int .i64 (sm : Int)] 40))) ((unhide HLa).below (Below.alloc1 wa (.cells #[.string xs, .int .i64 xw, .int .i64 yc, .bool xo, .int .i64 xf, .int .i64 xt, .int .i64 (j : Int), .int .i64 y, .int .i64 (sm : Int)] 40))) (by decide) (Nat.le_trans (unhide HBa).size (by simp)) hK); have qb0 := ((unhide HBb).cell (lt_of_cell bx0)).trans bx0; have qb1 := ((unhide HBb).cell (lt_of_cell bx1)).trans bx1; have qb2 := ((unhide HBb).cell (lt_of_cell bx2)).trans bx2; have qb3 := ((unhide HBb).cell (lt_of_cell bx3)).trans bx3; have qb4 := ((unhide HBb).cell (lt_of_cell bx4)).trans bx4; have qb5 := ((unhide HBb).cell (lt_of_cell bx5)).trans bx5; have qs0 := ((unhide HBb).cell (lt_of_cell sx0)).trans sx0; have qs1 := ((unhide HBb).cell (lt_of_cell sx1)).trans sx1; have qs2 := ((unhide HBb).cell (lt_of_cell sx2)).trans sx2; clear hL hK hat hBg) | (refine step_appRow tyStow _ (by rfl) (.tmp 98) (.tmp 102) (by rfl) wz.heap.size ao2 m cap2 L (by rfl) (RowB.below ((unhide HLa).below (Below.alloc1 wa (.cells #[.string xs, .int .i64 xw, .int .i64 yc, .bool xo, .int .i64 xf, .int .i64 xt, .int .i64 (j : Int), .int .i64 y, .int .i64 (sm : Int)] 40))) (Below.refl _ _).drew) (Nat.le_trans (unhide HBa).size (by simp)) (by omega) (wa.heap.size) (xs, xw, yc, xo, xf, xt, (j : Int), y, (sm : Int)) 1 (by rfl) ((ownV_alloc wa #[.string xs, .int .i64 xw, .int .i64 yc, .bool xo, .int .i64 xf, .int .i64 xt, .int .i64 (j : Int), .int .i64 y, .int .i64 (sm : Int)] 40).drew) ?_; intro g3 cap3 wb hL hK hBg hat; have HLb := hide hL; have HBb : Hid (Below wz.heap.size wz wb) := (onRowV ((Below.step (unhide HBa) (Below.alloc1 wa (.cells #[.string xs, .int .i64 xw, .int .i64 yc, .bool xo, .int .i64 xf, .int .i64 xt, .int .i64 (j : Int), .int .i64 y, .int .i64 (sm : Int)] 40))).drew) (RowB.below ((unhide HLa).below (Below.alloc1 wa (.cells #[.string xs, .int .i64 xw, .int .i64 yc, .bool xo, .int .i64 xf, .int .i64 xt, .int .i64 (j : Int), .int .i64 y, .int .i64 (sm : Int)] 40))) (Below.refl _ _).drew) (by decide) (Nat.le_trans (unhide HBa).size (by simp)) hK); have qb0 := ((unhide HBb).cell (lt_of_cell bx0)).trans bx0; have qb1 := ((unhide HBb).cell (lt_of_cell bx1)).trans bx1; have qb2 := ((unhide HBb).cell (lt_of_cell bx2)).trans bx2; have qb3 := ((unhide HBb).cell (lt_of_cell bx3)).trans bx3; have qb4 := ((unhide HBb).cell (lt_of_cell bx4)).trans bx4; have qb5 := ((unhide HBb).cell (lt_of_cell bx5)).trans bx5; have qs0 := ((unhide HBb).cell (lt_of_cell sx0)).trans sx0; have qs1 := ((unhide HBb).cell (lt_of_cell sx1)).trans sx1; have qs2 := ((unhide HBb).cell (lt_of_cell sx2)).trans sx2; clear hL hK hat hBg) | (refine step_appRow tyStow _ (by rfl) (.tmp 98) (.tmp 102) (by rfl) wz.heap.size ao2 m cap2 L (by rfl) (unhide HLa) ((unhide HBa).size) (by omega) (wz.heap.size + 1) (xs, xw, yc, xo, xf, xt, (j : Int), y, (sm : Int)) 1 (by rfl) (unhide HG2) ?_; intro g3 cap3 wb hL hK hBg hat; have HLb := hide hL; have HBb : Hid (Below wz.heap.size wz wb) := (onRowV (unhide HBa) (unhide HLa) (by decide) ((unhide HBa).size) hK); have qb0 := ((unhide HBb).cell (lt_of_cell bx0)).trans bx0; have qb1 := ((unhide HBb).cell (lt_of_cell bx1)).trans bx1; have qb2 := ((unhide HBb).cell (lt_of_cell bx2)).trans bx2; have qb3 := ((unhide HBb).cell (lt_of_cell bx3)).trans bx3; have qb4 := ((unhide HBb).cell (lt_of_cell bx4)).trans bx4; have qb5 := ((unhide HBb).cell (lt_of_cell bx5)).trans bx5; have qs0 := ((unhide HBb).cell (lt_of_cell sx0)).trans sx0; have qs1 := ((unhide HBb).cell (lt_of_cell sx1)).trans sx1; have qs2 := ((unhide HBb).cell (lt_of_cell sx2)).trans sx2; clear hL hK hat hBg) | (refine step_appRow tyStow _ (by rfl) (.tmp 98) (.tmp 102) (by rfl) wz.heap.size ao2 m cap2 L (by rfl) (RowB.below (unhide HLa) (Below.refl _ _).drew) ((unhide HBa).size) (by omega) (wz.heap.size + 1) (xs, xw, yc, xo, xf, xt, (j : Int), y, (sm : Int)) 1 (by rfl) ((unhide HG2).drew) ?_; intro g3 cap3 wb hL hK hBg hat; have HLb := hide hL; have HBb : Hid (Below wz.heap.size wz wb) := (onRowV ((unhide HBa).drew) (RowB.below (unhide HLa) (Below.refl _ _).drew) (by decide) ((unhide HBa).size) hK); have qb0 := ((unhide HBb).cell (lt_of_cell bx0)).trans bx0; have qb1 := ((unhide HBb).cell (lt_of_cell bx1)).trans bx1; have qb2 := ((unhide HBb).cell (lt_of_cell bx2)).trans bx2; have qb3 := ((unhide HBb).cell (lt_of_cell bx3)).trans bx3; have qb4 := ((unhide HBb).cell (lt_of_cell bx4)).trans bx4; have qb5 := ((unhide HBb).cell (lt_of_cell bx5)).trans bx5; have qs0 := ((unhide HBb).cell (lt_of_cell sx0)).trans sx0; have qs1 := ((unhide HBb).cell (lt_of_cell sx1)).trans sx1; have qs2 := ((unhide HBb).cell (lt_of_cell sx2)).trans sx2; clear hL hK hat hBg) | (refine step_appRow tyStow _ (by rfl) (.tmp 98) (.tmp 102) (by rfl) wz.heap.size ao2 m cap2 L (by rfl) (unhide HLa) ((unhide HBa).size) (by omega) (wz.heap.size) (xs, xw, yc, xo, xf, xt, (j : Int), y, (sm : Int)) 1 (by rfl) (unhide HG3) ?_; intro g3 cap3 wb hL hK hBg hat; have HLb := hide hL; have HBb : Hid (Below wz.heap.size wz wb) := (onRowV (unhide HBa) (unhide HLa) (by decide) ((unhide HBa).size) hK); have qb0 := ((unhide HBb).cell (lt_of_cell bx0)).trans bx0; have qb1 := ((unhide HBb).cell (lt_of_cell bx1)).trans bx1; have qb2 := ((unhide HBb).cell (lt_of_cell bx2)).trans bx2; have qb3 := ((unhide HBb).cell (lt_of_cell bx3)).trans bx3; have qb4 := ((unhide HBb).cell (lt_of_cell bx4)).trans bx4; have qb5 := ((unhide HBb).cell (lt_of_cell bx5)).trans bx5; have qs0 := ((unhide HBb).cell (lt_of_cell sx0)).trans sx0; have qs1 := ((unhide HBb).cell (lt_of_cell sx1)).trans sx1; have qs2 := ((unhide HBb).cell (lt_of_cell sx2)).trans sx2; clear hL hK hat hBg) | (refine step_appRow tyStow _ (by rfl) (.tmp 98) (.tmp 102) (by rfl) wz.heap.size ao2 m cap2 L (by rfl) (RowB.below (unhide HLa) (Below.refl _ _).drew) ((unhide HBa).size) (by omega) (wz.heap.size) (xs, xw, yc, xo, xf, xt, (j : Int), y, (sm : Int)) 1 (by rfl) ((unhide HG3).drew) ?_; intro g3 cap3 wb hL hK hBg hat; have HLb := hide hL; have HBb : Hid (Below wz.heap.size wz wb) := (onRowV ((unhide HBa).drew) (RowB.below (unhide HLa) (Below.refl _ _).drew) (by decide) ((unhide HBa).size) hK); have qb0 := ((unhide HBb).cell (lt_of_cell bx0)).trans bx0; have qb1 := ((unhide HBb).cell (lt_of_cell bx1)).trans bx1; have qb2 := ((unhide HBb).cell (lt_of_cell bx2)).trans bx2; have qb3 := ((unhide HBb).cell (lt_of_cell bx3)).trans bx3; have qb4 := ((unhide HBb).cell (lt_of_cell bx4)).trans bx4; have qb5 := ((unhide HBb).cell (lt_of_cell bx5)).trans bx5; have qs0 := ((unhide HBb).cell (lt_of_cell sx0)).trans sx0; have qs1 := ((unhide HBb).cell (lt_of_cell sx1)).trans sx1; have qs2 := ((unhide HBb).cell (lt_of_cell sx2)).trans sx2; clear hL hK hat hBg))
          all_goals
            replace HR := hide ((unhide HR).step (unhide HBb))
            have HRb := hide ((unhide HLb).recs (by decide))
            have HHb := hide (unhide HBAY _ (unhide HR).kept)
            go_wp2_with fail
            refine (specStowCode_any _ _ H (L ++ [(xs, xw, yc, xo, xf, xt, (j : Int), y, (sm : Int))]) _ (unhide HHb) (unhide HRb)).mono ?_
            rintro e W20 ⟨rfl, hb⟩
            replace HR := hide ((unhide HR).step hb)
            replace HLb := hide ((unhide HLb).below hb)
            clear hb HRb HHb HBb
            generalize (stowC H (L ++ [(xs, xw, yc, xo, xf, xt, (j : Int), y, (sm : Int))])).1 = cd
            generalize (stowC H (L ++ [(xs, xw, yc, xo, xf, xt, (j : Int), y, (sm : Int))])).2 = ce
            have HF : Hid (Rd3 cb n v w W20 (some ⟨g3, 0, none⟩) (m + 1) cap3 (L ++ [(xs, xw, yc, xo, xf, xt, (j : Int), y, (sm : Int))])) := ⟨(unhide HLb).mono (unhide hzm), (unhide HR).cur, (unhide HR).kept⟩
            clear HLb
            by_cases hcd : cd = 0
            · subst hcd
              go_wp2
              go_roundg k
              case measure => omega
              case rel => exact ⟨k, m + 1, cap3, some ⟨g3, 0, none⟩, (L ++ [(xs, xw, yc, xo, xf, xt, (j : Int), y, (sm : Int))]), rfl, by go_num, rfl, by omega, by omega, unhide HF⟩
            · have hcb : (cd == 0) = false := by simpa using hcd
              go_wp2_with fail
              refine (unhide QO _ (unhide HR).cur 25 (by omega) (by omega)).mono ?_
              rintro e W21 ⟨q3, rfl, hC, hK⟩
              replace HR := hide ((unhide HR).draw hcl hC hK)
              replace HF := hide ((unhide HF).draw hcl hC hK)
              clear hC hK
              cases q3
              · go_wp2
                go_roundg k
                case measure => omega
                case rel => exact ⟨k, m, c, ro, L, rfl, by go_num, rfl, by omega, hm10, unhide HR⟩
              · go_wp2
                go_roundg k
                case measure => omega
                case rel => exact ⟨k, m + 1, cap3, some ⟨g3, 0, none⟩, (L ++ [(xs, xw, yc, xo, xf, xt, (j : Int), y, (sm : Int))]), rfl, by go_num, rfl, by omega, by omega, unhide HF⟩
      · go_region
        go_upto_region 15 with (fail)
        generalize wc.drew = wz at *
        have hzs := (unhide HR).kept.size
        have hzm : Hid (w.heap.size ≤ wz.heap.size) := hzs
        have HR2 := hide ((unhide HR).row.recs (by decide))
        have bx0 := (unhide HX).cell (i := 0) rfl
        have bx1 := (unhide HX).cell (i := 1) rfl
        have bx2 := (unhide HX).cell (i := 2) rfl
        have bx3 := (unhide HX).cell (i := 3) rfl
        have bx4 := (unhide HX).cell (i := 4) rfl
        have bx5 := (unhide HX).cell (i := 5) rfl
        have sx0 := (unhide HS).cell (i := 0) rfl
        have sx1 := (unhide HS).cell (i := 1) rfl
        have sx2 := (unhide HS).cell (i := 2) rfl
        have hbb := (unhide HX).lt
        have hsb := (unhide HS).lt
        have R1 : Hid (RowB 40 9 eStow wz.heap.size (wz.alloc (.cells #[] 40)).drew (some ⟨wz.heap.size, 0, none⟩) 0 0 ([] : List StowT)) := RowB.below (rowB_new 40 9 eStow wz wz.heap.size (Nat.le_refl _)) (Below.refl _ _).drew
        have R2 : Hid (RowB 40 9 eStow wz.heap.size ((wz.alloc (.cells #[] 40)).alloc (.cells #[.string xs, .int .i64 xw, .int .i64 yc, .bool xo, .int .i64 xf, .int .i64 xt, .int .i64 (j : Int), .int .i64 y, .int .i64 (sm : Int)] 40)).drew (some ⟨wz.heap.size, 0, none⟩) 0 0 ([] : List StowT)) := RowB.below ((rowB_new 40 9 eStow wz wz.heap.size (Nat.le_refl _)).below (Below.alloc1 _ _)) (Below.refl _ _).drew
        have R3' : RowB 40 9 eStow wz.heap.size ((wz.alloc (.cells #[.string xs, .int .i64 xw, .int .i64 yc, .bool xo, .int .i64 xf, .int .i64 xt, .int .i64 (j : Int), .int .i64 y, .int .i64 (sm : Int)] 40)).alloc (.cells #[] 40)) (some ⟨(wz.alloc (.cells #[.string xs, .int .i64 xw, .int .i64 yc, .bool xo, .int .i64 xf, .int .i64 xt, .int .i64 (j : Int), .int .i64 y, .int .i64 (sm : Int)] 40)).heap.size, 0, none⟩) 0 0 ([] : List StowT) := rowB_new 40 9 eStow (wz.alloc (.cells #[.string xs, .int .i64 xw, .int .i64 yc, .bool xo, .int .i64 xf, .int .i64 xt, .int .i64 (j : Int), .int .i64 y, .int .i64 (sm : Int)] 40)) wz.heap.size (by simp)
        simp only [World.size_alloc] at R3'
        have R3 : Hid (RowB 40 9 eStow wz.heap.size ((wz.alloc (.cells #[.string xs, .int .i64 xw, .int .i64 yc, .bool xo, .int .i64 xf, .int .i64 xt, .int .i64 (j : Int), .int .i64 y, .int .i64 (sm : Int)] 40)).alloc (.cells #[] 40)).drew (some ⟨wz.heap.size + 1, 0, none⟩) 0 0 ([] : List StowT)) := RowB.below R3' (Below.refl _ _).drew
        have HB1 : Hid (Below wz.heap.size wz (wz.alloc (.cells #[] 40)).drew) := (Below.alloc1 _ _).drew
        have HB2 : Hid (Below wz.heap.size wz ((wz.alloc (.cells #[] 40)).alloc (.cells #[.string xs, .int .i64 xw, .int .i64 yc, .bool xo, .int .i64 xf, .int .i64 xt, .int .i64 (j : Int), .int .i64 y, .int .i64 (sm : Int)] 40)).drew) := (Below.step (Below.alloc1 _ _) (Below.alloc1 _ _)).drew
        have HB3 : Hid (Below wz.heap.size wz ((wz.alloc (.cells #[.string xs, .int .i64 xw, .int .i64 yc, .bool xo, .int .i64 xf, .int .i64 xt, .int .i64 (j : Int), .int .i64 y, .int .i64 (sm : Int)] 40)).alloc (.cells #[] 40)).drew) := (Below.step (Below.alloc1 _ _) (Below.alloc1 _ _)).drew
        have D1 := hide ((unhide HR2).below (unhide HB1))
        have D2 := hide ((unhide HR2).below (unhide HB2))
        have D3 := hide ((unhide HR2).below (unhide HB3))
        have G2 : Hid (OwnV ((wz.alloc (.cells #[] 40)).alloc (.cells #[.string xs, .int .i64 xw, .int .i64 yc, .bool xo, .int .i64 xf, .int .i64 xt, .int .i64 (j : Int), .int .i64 y, .int .i64 (sm : Int)] 40)).drew (wz.heap.size + 1) [.string xs, .int .i64 xw, .int .i64 yc, .bool xo, .int .i64 xf, .int .i64 xt, .int .i64 (j : Int), .int .i64 y, .int .i64 (sm : Int)]) := by
          have h := ownV_alloc (wz.alloc (.cells #[] 40)) #[.string xs, .int .i64 xw, .int .i64 yc, .bool xo, .int .i64 xf, .int .i64 xt, .int .i64 (j : Int), .int .i64 y, .int .i64 (sm : Int)] 40
          simp only [World.size_alloc] at h
          exact h.drew
        have G3 : Hid (OwnV ((wz.alloc (.cells #[.string xs, .int .i64 xw, .int .i64 yc, .bool xo, .int .i64 xf, .int .i64 xt, .int .i64 (j : Int), .int .i64 y, .int .i64 (sm : Int)] 40)).alloc (.cells #[] 40)).drew wz.heap.size [.string xs, .int .i64 xw, .int .i64 yc, .bool xo, .int .i64 xf, .int .i64 xt, .int .i64 (j : Int), .int .i64 y, .int .i64 (sm : Int)]) := (OwnV.alloc (ownV_alloc wz #[.string xs, .int .i64 xw, .int .i64 yc, .bool xo, .int .i64 xf, .int .i64 xt, .int .i64 (j : Int), .int .i64 y, .int .i64 (sm : Int)] 40) _).drew
        clear R3'
        go_region_held3 (fun z => z.cell? ⟨gx, 0, none⟩ = some (.string xs) ∧ z.cell? ⟨gx, 1, none⟩ = some (.int .i64 xw) ∧ z.cell? ⟨gx, 2, none⟩ = some (.int .i64 yc) ∧ z.cell? ⟨gx, 3, none⟩ = some (.bool xo) ∧ z.cell? ⟨gx, 4, none⟩ = some (.int .i64 xf) ∧ z.cell? ⟨gx, 5, none⟩ = some (.int .i64 xt) ∧ z.cell? ⟨gs, 0, none⟩ = some (.int .i64 (j : Int)) ∧ z.cell? ⟨gs, 1, none⟩ = some (.int .i64 y) ∧ z.cell? ⟨gs, 2, none⟩ = some (.int .i64 (sm : Int))) (go_keep) (first | (refine step_appAll tyStow _ (by rfl) (.tmp 96) (.tmp 97) (by rfl) wz.heap.size (some ⟨wz.heap.size, 0, none⟩) 0 0 [] (by rfl) (unhide R1) (by simp <;> omega) (by omega) ro m c L (by rfl) (unhide D1) (by omega) ?_; intro ao2 cap2 wa hL hK; rw [Nat.zero_add m] at hL ⊢; have HLa : Hid (RowB 40 9 eStow wz.heap.size wa ao2 m cap2 L) := hL; have HBa : Hid (Below wz.heap.size wz wa) := (onRowV (unhide HB1) (unhide R1) (by decide) (by simp <;> omega) hK); have hza := (unhide HBa).size; have pb0 := ((unhide HBa).cell (lt_of_cell bx0)).trans bx0; have pb1 := ((unhide HBa).cell (lt_of_cell bx1)).trans bx1; have pb2 := ((unhide HBa).cell (lt_of_cell bx2)).trans bx2; have pb3 := ((unhide HBa).cell (lt_of_cell bx3)).trans bx3; have pb4 := ((unhide HBa).cell (lt_of_cell bx4)).trans bx4; have pb5 := ((unhide HBa).cell (lt_of_cell bx5)).trans bx5; have ps0 := ((unhide HBa).cell (lt_of_cell sx0)).trans sx0; have ps1 := ((unhide HBa).cell (lt_of_cell sx1)).trans sx1; have ps2 := ((unhide HBa).cell (lt_of_cell sx2)).trans sx2; clear hL hK) | (refine step_appAll tyStow _ (by rfl) (.tmp 96) (.tmp 97) (by rfl) wz.heap.size (some ⟨wz.heap.size, 0, none⟩) 0 0 [] (by rfl) (unhide R2) (by simp <;> omega) (by omega) ro m c L (by rfl) (unhide D2) (by omega) ?_; intro ao2 cap2 wa hL hK; rw [Nat.zero_add m] at hL ⊢; have HLa : Hid (RowB 40 9 eStow wz.heap.size wa ao2 m cap2 L) := hL; have HBa : Hid (Below wz.heap.size wz wa) := (onRowV (unhide HB2) (unhide R2) (by decide) (by simp <;> omega) hK); have hza := (unhide HBa).size; have HG2 : Hid (OwnV wa (wz.heap.size + 1) [.string xs, .int .i64 xw, .int .i64 yc, .bool xo, .int .i64 xf, .int .i64 xt, .int .i64 (j : Int), .int .i64 y, .int .i64 (sm : Int)]) := ((unhide G2).kept hK (fun e => by simp only [Option.some.injEq, Addr.mk.injEq, and_true] at e; omega)); have pb0 := ((unhide HBa).cell (lt_of_cell bx0)).trans bx0; have pb1 := ((unhide HBa).cell (lt_of_cell bx1)).trans bx1; have pb2 := ((unhide HBa).cell (lt_of_cell bx2)).trans bx2; have pb3 := ((unhide HBa).cell (lt_of_cell bx3)).trans bx3; have pb4 := ((unhide HBa).cell (lt_of_cell bx4)).trans bx4; have pb5 := ((unhide HBa).cell (lt_of_cell bx5)).trans bx5; have ps0 := ((unhide HBa).cell (lt_of_cell sx0)).trans sx0; have ps1 := ((unhide HBa).cell (lt_of_cell sx1)).trans sx1; have ps2 := ((unhide HBa).cell (lt_of_cell sx2)).trans sx2; clear hL hK) | (refine step_appAll tyStow _ (by rfl) (.tmp 96) (.tmp 97) (by rfl) wz.heap.size (some ⟨wz.heap.size + 1, 0, none⟩) 0 0 [] (by rfl) (unhide R3) (by simp <;> omega) (by omega) ro m c L (by rfl) (unhide D3) (by omega) ?_; intro ao2 cap2 wa hL hK; rw [Nat.zero_add m] at hL ⊢; have HLa : Hid (RowB 40 9 eStow wz.heap.size wa ao2 m cap2 L) := hL; have HBa : Hid (Below wz.heap.size wz wa) := (onRowV (unhide HB3) (unhide R3) (by decide) (by simp <;> omega) hK); have hza := (unhide HBa).size; have HG3 : Hid (OwnV wa (wz.heap.size) [.string xs, .int .i64 xw, .int .i64 yc, .bool xo, .int .i64 xf, .int .i64 xt, .int .i64 (j : Int), .int .i64 y, .int .i64 (sm : Int)]) := ((unhide G3).kept hK (fun e => by simp only [Option.some.injEq, Addr.mk.injEq, and_true] at e; omega)); have pb0 := ((unhide HBa).cell (lt_of_cell bx0)).trans bx0; have pb1 := ((unhide HBa).cell (lt_of_cell bx1)).trans bx1; have pb2 := ((unhide HBa).cell (lt_of_cell bx2)).trans bx2; have pb3 := ((unhide HBa).cell (lt_of_cell bx3)).trans bx3; have pb4 := ((unhide HBa).cell (lt_of_cell bx4)).trans bx4; have pb5 := ((unhide HBa).cell (lt_of_cell bx5)).trans bx5; have ps0 := ((unhide HBa).cell (lt_of_cell sx0)).trans sx0; have ps1 := ((unhide HBa).cell (lt_of_cell sx1)).trans sx1; have ps2 := ((unhide HBa).cell (lt_of_cell sx2)).trans sx2; clear hL hK) | (refine step_appRow tyStow _ (by rfl) (.tmp 98) (.tmp 102) (by rfl) wz.heap.size ao2 m cap2 L (by rfl) ((unhide HLa).below (Below.alloc1 wa (.cells #[.string xs, .int .i64 xw, .int .i64 yc, .bool xo, .int .i64 xf, .int .i64 xt, .int .i64 (j : Int), .int .i64 y, .int .i64 (sm : Int)] 40))) (Nat.le_trans (unhide HBa).size (by simp)) (by omega) (wa.heap.size) (xs, xw, yc, xo, xf, xt, (j : Int), y, (sm : Int)) 1 (by rfl) (ownV_alloc wa #[.string xs, .int .i64 xw, .int .i64 yc, .bool xo, .int .i64 xf, .int .i64 xt, .int .i64 (j : Int), .int .i64 y, .int .i64 (sm : Int)] 40) ?_; intro g3 cap3 wb hL hK hBg hat; have HLb := hide hL; have HBb : Hid (Below wz.heap.size wz wb) := (onRowV (Below.step (unhide HBa) (Below.alloc1 wa (.cells #[.string xs, .int .i64 xw, .int .i64 yc, .bool xo, .int .i64 xf, .int .i64 xt, .int .i64 (j : Int), .int .i64 y, .int .i64 (sm : Int)] 40))) ((unhide HLa).below (Below.alloc1 wa (.cells #[.string xs, .int .i64 xw, .int .i64 yc, .bool xo, .int .i64 xf, .int .i64 xt, .int .i64 (j : Int), .int .i64 y, .int .i64 (sm : Int)] 40))) (by decide) (Nat.le_trans (unhide HBa).size (by simp)) hK); have qb0 := ((unhide HBb).cell (lt_of_cell bx0)).trans bx0; have qb1 := ((unhide HBb).cell (lt_of_cell bx1)).trans bx1; have qb2 := ((unhide HBb).cell (lt_of_cell bx2)).trans bx2; have qb3 := ((unhide HBb).cell (lt_of_cell bx3)).trans bx3; have qb4 := ((unhide HBb).cell (lt_of_cell bx4)).trans bx4; have qb5 := ((unhide HBb).cell (lt_of_cell bx5)).trans bx5; have qs0 := ((unhide HBb).cell (lt_of_cell sx0)).trans sx0; have qs1 := ((unhide HBb).cell (lt_of_cell sx1)).trans sx1; have qs2 := ((unhide HBb).cell (lt_of_cell sx2)).trans sx2; clear hL hK hat hBg) | (refine step_appRow tyStow _ (by rfl) (.tmp 98) (.tmp 102) (by rfl) wz.heap.size ao2 m cap2 L (by rfl) (RowB.below ((unhide HLa).below (Below.alloc1 wa (.cells #[.string xs, .int .i64 xw, .int .i64 yc, .bool xo, .int .i64 xf, .int .i64 xt, .int .i64 (j : Int), .int .i64 y, .int .i64 (sm : Int)] 40))) (Below.refl _ _).drew) (Nat.le_trans (unhide HBa).size (by simp)) (by omega) (wa.heap.size) (xs, xw, yc, xo, xf, xt, (j : Int), y, (sm : Int)) 1 (by rfl) ((ownV_alloc wa #[.string xs, .int .i64 xw, .int .i64 yc, .bool xo, .int .i64 xf, .int .i64 xt, .int .i64 (j : Int), .int .i64 y, .int .i64 (sm : Int)] 40).drew) ?_; intro g3 cap3 wb hL hK hBg hat; have HLb := hide hL; have HBb : Hid (Below wz.heap.size wz wb) := (onRowV ((Below.step (unhide HBa) (Below.alloc1 wa (.cells #[.string xs, .int .i64 xw, .int .i64 yc, .bool xo, .int .i64 xf, .int .i64 xt, .int .i64 (j : Int), .int .i64 y, .int .i64 (sm : Int)] 40))).drew) (RowB.below ((unhide HLa).below (Below.alloc1 wa (.cells #[.string xs, .int .i64 xw, .int .i64 yc, .bool xo, .int .i64 xf, .int .i64 xt, .int .i64 (j : Int), .int .i64 y, .int .i64 (sm : Int)] 40))) (Below.refl _ _).drew) (by decide) (Nat.le_trans (unhide HBa).size (by simp)) hK); have qb0 := ((unhide HBb).cell (lt_of_cell bx0)).trans bx0; have qb1 := ((unhide HBb).cell (lt_of_cell bx1)).trans bx1; have qb2 := ((unhide HBb).cell (lt_of_cell bx2)).trans bx2; have qb3 := ((unhide HBb).cell (lt_of_cell bx3)).trans bx3; have qb4 := ((unhide HBb).cell (lt_of_cell bx4)).trans bx4; have qb5 := ((unhide HBb).cell (lt_of_cell bx5)).trans bx5; have qs0 := ((unhide HBb).cell (lt_of_cell sx0)).trans sx0; have qs1 := ((unhide HBb).cell (lt_of_cell sx1)).trans sx1; have qs2 := ((unhide HBb).cell (lt_of_cell sx2)).trans sx2; clear hL hK hat hBg) | (refine step_appRow tyStow _ (by rfl) (.tmp 98) (.tmp 102) (by rfl) wz.heap.size ao2 m cap2 L (by rfl) (unhide HLa) ((unhide HBa).size) (by omega) (wz.heap.size + 1) (xs, xw, yc, xo, xf, xt, (j : Int), y, (sm : Int)) 1 (by rfl) (unhide HG2) ?_; intro g3 cap3 wb hL hK hBg hat; have HLb := hide hL; have HBb : Hid (Below wz.heap.size wz wb) := (onRowV (unhide HBa) (unhide HLa) (by decide) ((unhide HBa).size) hK); have qb0 := ((unhide HBb).cell (lt_of_cell bx0)).trans bx0; have qb1 := ((unhide HBb).cell (lt_of_cell bx1)).trans bx1; have qb2 := ((unhide HBb).cell (lt_of_cell bx2)).trans bx2; have qb3 := ((unhide HBb).cell (lt_of_cell bx3)).trans bx3; have qb4 := ((unhide HBb).cell (lt_of_cell bx4)).trans bx4; have qb5 := ((unhide HBb).cell (lt_of_cell bx5)).trans bx5; have qs0 := ((unhide HBb).cell (lt_of_cell sx0)).trans sx0; have qs1 := ((unhide HBb).cell (lt_of_cell sx1)).trans sx1; have qs2 := ((unhide HBb).cell (lt_of_cell sx2)).trans sx2; clear hL hK hat hBg) | (refine step_appRow tyStow _ (by rfl) (.tmp 98) (.tmp 102) (by rfl) wz.heap.size ao2 m cap2 L (by rfl) (RowB.below (unhide HLa) (Below.refl _ _).drew) ((unhide HBa).size) (by omega) (wz.heap.size + 1) (xs, xw, yc, xo, xf, xt, (j : Int), y, (sm : Int)) 1 (by rfl) ((unhide HG2).drew) ?_; intro g3 cap3 wb hL hK hBg hat; have HLb := hide hL; have HBb : Hid (Below wz.heap.size wz wb) := (onRowV ((unhide HBa).drew) (RowB.below (unhide HLa) (Below.refl _ _).drew) (by decide) ((unhide HBa).size) hK); have qb0 := ((unhide HBb).cell (lt_of_cell bx0)).trans bx0; have qb1 := ((unhide HBb).cell (lt_of_cell bx1)).trans bx1; have qb2 := ((unhide HBb).cell (lt_of_cell bx2)).trans bx2; have qb3 := ((unhide HBb).cell (lt_of_cell bx3)).trans bx3; have qb4 := ((unhide HBb).cell (lt_of_cell bx4)).trans bx4; have qb5 := ((unhide HBb).cell (lt_of_cell bx5)).trans bx5; have qs0 := ((unhide HBb).cell (lt_of_cell sx0)).trans sx0; have qs1 := ((unhide HBb).cell (lt_of_cell sx1)).trans sx1; have qs2 := ((unhide HBb).cell (lt_of_cell sx2)).trans sx2; clear hL hK hat hBg) | (refine step_appRow tyStow _ (by rfl) (.tmp 98) (.tmp 102) (by rfl) wz.heap.size ao2 m cap2 L (by rfl) (unhide HLa) ((unhide HBa).size) (by omega) (wz.heap.size) (xs, xw, yc, xo, xf, xt, (j : Int), y, (sm : Int)) 1 (by rfl) (unhide HG3) ?_; intro g3 cap3 wb hL hK hBg hat; have HLb := hide hL; have HBb : Hid (Below wz.heap.size wz wb) := (onRowV (unhide HBa) (unhide HLa) (by decide) ((unhide HBa).size) hK); have qb0 := ((unhide HBb).cell (lt_of_cell bx0)).trans bx0; have qb1 := ((unhide HBb).cell (lt_of_cell bx1)).trans bx1; have qb2 := ((unhide HBb).cell (lt_of_cell bx2)).trans bx2; have qb3 := ((unhide HBb).cell (lt_of_cell bx3)).trans bx3; have qb4 := ((unhide HBb).cell (lt_of_cell bx4)).trans bx4; have qb5 := ((unhide HBb).cell (lt_of_cell bx5)).trans bx5; have qs0 := ((unhide HBb).cell (lt_of_cell sx0)).trans sx0; have qs1 := ((unhide HBb).cell (lt_of_cell sx1)).trans sx1; have qs2 := ((unhide HBb).cell (lt_of_cell sx2)).trans sx2; clear hL hK hat hBg) | (refine step_appRow tyStow _ (by rfl) (.tmp 98) (.tmp 102) (by rfl) wz.heap.size ao2 m cap2 L (by rfl) (RowB.below (unhide HLa) (Below.refl _ _).drew) ((unhide HBa).size) (by omega) (wz.heap.size) (xs, xw, yc, xo, xf, xt, (j : Int), y, (sm : Int)) 1 (by rfl) ((unhide HG3).drew) ?_; intro g3 cap3 wb hL hK hBg hat; have HLb := hide hL; have HBb : Hid (Below wz.heap.size wz wb) := (onRowV ((unhide HBa).drew) (RowB.below (unhide HLa) (Below.refl _ _).drew) (by decide) ((unhide HBa).size) hK); have qb0 := ((unhide HBb).cell (lt_of_cell bx0)).trans bx0; have qb1 := ((unhide HBb).cell (lt_of_cell bx1)).trans bx1; have qb2 := ((unhide HBb).cell (lt_of_cell bx2)).trans bx2; have qb3 := ((unhide HBb).cell (lt_of_cell bx3)).trans bx3; have qb4 := ((unhide HBb).cell (lt_of_cell bx4)).trans bx4; have qb5 := ((unhide HBb).cell (lt_of_cell bx5)).trans bx5; have qs0 := ((unhide HBb).cell (lt_of_cell sx0)).trans sx0; have qs1 := ((unhide HBb).cell (lt_of_cell sx1)).trans sx1; have qs2 := ((unhide HBb).cell (lt_of_cell sx2)).trans sx2; clear hL hK hat hBg))
        all_goals
          replace HR := hide ((unhide HR).step (unhide HBb))
          have HRb := hide ((unhide HLb).recs (by decide))
          have HHb := hide (unhide HBAY _ (unhide HR).kept)
          go_wp2_with fail
          refine (specStowCode_any _ _ H (L ++ [(xs, xw, yc, xo, xf, xt, (j : Int), y, (sm : Int))]) _ (unhide HHb) (unhide HRb)).mono ?_
          rintro e W20 ⟨rfl, hb⟩
          replace HR := hide ((unhide HR).step hb)
          replace HLb := hide ((unhide HLb).below hb)
          clear hb HRb HHb HBb
          generalize (stowC H (L ++ [(xs, xw, yc, xo, xf, xt, (j : Int), y, (sm : Int))])).1 = cd
          generalize (stowC H (L ++ [(xs, xw, yc, xo, xf, xt, (j : Int), y, (sm : Int))])).2 = ce
          have HF : Hid (Rd3 cb n v w W20 (some ⟨g3, 0, none⟩) (m + 1) cap3 (L ++ [(xs, xw, yc, xo, xf, xt, (j : Int), y, (sm : Int))])) := ⟨(unhide HLb).mono (unhide hzm), (unhide HR).cur, (unhide HR).kept⟩
          clear HLb
          by_cases hcd : cd = 0
          · subst hcd
            go_wp2
            go_roundg k
            case measure => omega
            case rel => exact ⟨k, m + 1, cap3, some ⟨g3, 0, none⟩, (L ++ [(xs, xw, yc, xo, xf, xt, (j : Int), y, (sm : Int))]), rfl, by go_num, rfl, by omega, by omega, unhide HF⟩
          · have hcb : (cd == 0) = false := by simpa using hcd
            go_wp2_with fail
            refine (unhide QO _ (unhide HR).cur 25 (by omega) (by omega)).mono ?_
            rintro e W21 ⟨q3, rfl, hC, hK⟩
            replace HR := hide ((unhide HR).draw hcl hC hK)
            replace HF := hide ((unhide HF).draw hcl hC hK)
            clear hC hK
            cases q3
            · go_wp2
              go_roundg k
              case measure => omega
              case rel => exact ⟨k, m, c, ro, L, rfl, by go_num, rfl, by omega, hm10, unhide HR⟩
            · go_wp2
              go_roundg k
              case measure => omega
              case rel => exact ⟨k, m + 1, cap3, some ⟨g3, 0, none⟩, (L ++ [(xs, xw, yc, xo, xf, xt, (j : Int), y, (sm : Int))]), rfl, by go_num, rfl, by omega, by omega, unhide HF⟩

end Go.Proofs.Ytnfdokcpjcnknaa

/- What DrawAtPort draws. Written by wip/mkvoe.py. No statement about the program stands here. -/
namespace Go.Proofs.Ytnfdokcpjcnknaa
open Go.RowKit

/-- A row of stows in blocks from B to U. -/
structure RU (B U : Nat) (W : World) (ro : Option Addr) (m c : Nat) (L : List StowT) : Prop where
  row : RowB 40 9 eStow B W ro m c L
  lt : ∀ g, ro = some ⟨g, 0, none⟩ → g < U
/-- The cursor, the bays; all else below. -/
structure Vo (w : World) (cb n : Nat) (v : Value) (B1 U1 : Nat) (bay : Value) (H : List HatchT) (W : World) : Prop where
  cur : Cur W cb v n
  bel : Below w.heap.size w W
  bays : OwnRU 4 eHatch B1 U1 W bay H
  ap : w.heap.size ≤ cb ∧ cb < B1 ∧ B1 ≤ U1
section
variable {w W W' : World} {cb n : Nat} {v bay : Value} {B U B1 U1 : Nat} {H : List HatchT} {ro : Option Addr} {m c g k : Nat} {L : List StowT}
theorem RU.kept {Q : Nat → Prop} (h : RU B U W ro m c L) (hk : Kept Q W W') (hQ : ∀ b, B ≤ b → b < U → ¬ Q b) : RU B U W' ro m c L := ⟨h.row.kept hk (fun g e hB _ => hQ g hB (h.lt g e)), h.lt⟩
theorem RU.step (h : RU B U W ro m c L) (hb : Below W.heap.size W W') : RU B U W' ro m c L := ⟨h.row.below hb, h.lt⟩
theorem ru_of (h : RowB 40 9 eStow B W ro m c L) : RU B W.heap.size W ro m c L := ⟨h, fun g e => by
  rcases h.parts (by omega) with ⟨e', _⟩ | ⟨g', e', _, h2, _⟩
  · rw [e] at e'; cases e'
  · rw [e] at e'
    simp only [Option.some.injEq, Addr.mk.injEq, and_true] at e'
    omega⟩
theorem RU.own (h : RU B U W (some ⟨g, 0, none⟩) m c L) : B ≤ g ∧ g < U ∧ OwnV W g (recCells 9 eStow L) := by
  rcases h.row.parts (by omega) with ⟨e, _⟩ | ⟨g', e, h1, h2, h3, h4, h5⟩
  · cases e
  · simp only [Option.some.injEq, Addr.mk.injEq, and_true] at e
    subst e
    exact ⟨h1, h.lt _ rfl, h5⟩
theorem RU.isAt (h : RU B U W ro m c L) (hm : 0 < m) : ∃ g, ro = some ⟨g, 0, none⟩ := by
  rcases h.row.parts (by omega) with ⟨_, e, _⟩ | ⟨g', e, _⟩
  · omega
  · exact ⟨g', e⟩
theorem RU.cell (h : RU B U W (some ⟨g, 0, none⟩) m c L) (hk : k < L.length) {j : Nat} (hj : j < 9) : W.cell? ⟨g, k * 9 + j, none⟩ = some (eStow (L.getD k default) j) := h.own.2.2.cell (recCells_get (n := 9) (enc := eStow) hk hj)
theorem RU.putI (h : RU B U W (some ⟨g, 0, none⟩) m c L) (hk : k < m) (j : Nat) (hj : j = 4 ∨ j = 5) (z : Int) : ∃ M, RU B U (W.setCell ⟨g, k * 9 + j, none⟩ (.int .i64 z)) (some ⟨g, 0, none⟩) m c M := by
  have hl : k < L.length := by rw [h.row.len (by omega)]; exact hk
  obtain ⟨s, wt, cl, co, fr, tt, sx, sy, sz, e⟩ : ∃ s wt cl co fr tt sx sy sz, L.getD k default = (s, wt, cl, co, fr, tt, sx, sy, sz) := ⟨_, _, _, _, _, _, _, _, _, rfl⟩
  rcases hj with rfl | rfl
  · exact ⟨_, h.row.set (j := 4) (by omega) hl (s, wt, cl, co, z, tt, sx, sy, sz) _ rfl (fun j' h1 h2 => by rw [e]; rcases nine j' h1 with rfl | rfl | rfl | rfl | rfl | rfl | rfl | rfl | rfl <;> first | rfl | exact absurd rfl h2), h.lt⟩
  · exact ⟨_, h.row.set (j := 5) (by omega) hl (s, wt, cl, co, fr, z, sx, sy, sz) _ rfl (fun j' h1 h2 => by rw [e]; rcases nine j' h1 with rfl | rfl | rfl | rfl | rfl | rfl | rfl | rfl | rfl <;> first | rfl | exact absurd rfl h2), h.lt⟩
theorem Vo.keep {Q : Nat → Prop} (h : Vo w cb n v B1 U1 bay H W) (hk : Kept Q W W') (hC : Cur W' cb v n) (hQ : ∀ b, Q b → b = cb ∨ U1 ≤ b) : Vo w cb n v B1 U1 bay H W' := by
  have ha := h.ap
  exact ⟨hC, h.bel.trans (hk.below h.bel.size (fun k e => by have := hQ k e; omega)), h.bays.kept hk (fun b h1 h2 e => by have := hQ b e; omega), ha⟩
theorem Vo.keep1 {Q : Nat → Prop} (h : Vo w cb n v B1 U1 bay H W) (hk : Kept Q W W') (hQ : ∀ b, Q b → U1 ≤ b) : Vo w cb n v B1 U1 bay H W' :=
  h.keep hk (h.cur.kept hk (fun b e => by have := hQ b e; have := h.ap; omega)) (fun b e => Or.inr (hQ b e))
theorem Vo.draw (h : Vo w cb n v B1 U1 bay H W) (hC : Cur W' cb v n) (hK : Kept (fun b => b = cb) W W') : Vo w cb n v B1 U1 bay H W' := h.keep hK hC (fun _ e => Or.inl e)
theorem Vo.step (h : Vo w cb n v B1 U1 bay H W) (hb : Below W.heap.size W W') : Vo w cb n v B1 U1 bay H W' := ⟨h.cur.below hb, Below.step h.bel hb, h.bays.below hb, h.ap⟩
theorem RU.draw (h : RU B U W ro m c L) (hK : Kept (fun b => b = cb) W W') (hc : cb < B) : RU B U W' ro m c L := h.kept hK (fun b h1 _ e => by have e : b = cb := e; omega)
theorem keptC (W : World) (g i : Nat) (u : Value) : Kept (fun b => b = g) W (W.setCell ⟨g, i, none⟩ u) := Kept.setCell (T := fun b => b = g) (Kept.refl _ W) (p := ⟨g, i, none⟩) rfl u
end

set_option maxRecDepth 100000 in
set_option maxHeartbeats 16000000 in
theorem drawAtPort_any (v : Value) (n : Nat) (w : World) (h : BytesIn w.heap.size w v n) (hn : n ≤ 1048576) : Calls Try.prog 5 #[v] w fun e w' => VoyAns w e w' := by
  have HB := hide h
  have QB0 := hide fun cb W (hW : Cur W cb v n) k h0 => l1BelowG_any cb n v k W hW hn h0
  have QO0 := hide fun cb W (hW : Cur W cb v n) k h0 h1 => l1Once_any cb n v k W hW hn h0 h1
  have QY := hide fun cb W (hW : Cur W cb v n) => l12DrawBays_any cb n v false W hW hn
  have QD := hide fun cb ba bm bc H B U many W (hW : Cur W cb v n) hb h1 h2 h3 => l12DrawStows_any cb n v ba bm bc H B U many W hW hn hb h1 h2 h3
  have QM := hide fun cb ro m c L B W (hW : Cur W cb v n) hR h1 h2 => l12Muddle_any cb n v ro m c L B W hW hn hR h1 h2
  have QP := hide fun cb g W (hW : Cur W cb v n) hx h1 => l1PickInt_any cb n v g 4 [-1, 0, 19, 20] W hW hn hx h1 rfl (by omega) (by omega)
  have QT0 := hide fun V o m c (T : List StowT) x y z (hV : RStow V (.slice o m c) T) => l12At_any _ T x y z V hV
  unfold v3 at QT0
  clear h
  go_enter Try.func5, Try.ntmps5
  go_wp2_with fail
  refine (l1New_any v n w (unhide HB) hn).mono ?_
  rintro e W0 ⟨rfl, hC0, hB0, hs0⟩
  have HC0 := hide hC0
  have HB0 := hide hB0
  clear hC0 hB0 HB
  obtain ⟨cb, ecb⟩ : ∃ cb, cb = w.heap.size := ⟨_, rfl⟩
  have hcw : w.heap.size ≤ cb := by omega
  rw [← ecb] at HC0 ⊢
  have hcb0 : cb < W0.heap.size := by omega
  clear ecb hs0
  go_wp2_with fail
  refine (unhide QY _ _ (unhide HC0)).mono ?_
  rintro e W1 hA
  obtain ⟨ba, bm, bc, H, rfl, hb7, hO, hC, hK⟩ := bays_out hA
  have HV : Hid (Vo w cb n v W0.heap.size W1.heap.size (.slice ba bm bc) H W1) := ⟨hC, (unhide HB0).trans (hK.below (unhide HB0).size (fun k e => by have e : k = cb := e; omega)), hO.upto, hcw, hcb0, hK.size⟩
  obtain ⟨B1, eB1⟩ : ∃ z, z = W0.heap.size := ⟨_, rfl⟩
  obtain ⟨U1, eU1⟩ : ∃ z, z = W1.heap.size := ⟨_, rfl⟩
  rw [← eB1, ← eU1] at HV
  have hap := (unhide HV).ap
  have hU1 : U1 ≤ W1.heap.size := by omega
  clear hA hO hC hK HC0 HB0 eB1 eU1 hcb0 hcw QY
  have QB := hide fun W (hW : Cur W cb v n) k h0 => unhide QB0 cb W hW k h0
  have QO := hide fun W (hW : Cur W cb v n) k h0 h1 => unhide QO0 cb W hW k h0 h1
  clear QB0 QO0
  go_wp2_with fail
  refine (unhide QB _ (unhide HV).cur 7 (by omega)).mono ?_
  rintro e W2 ⟨x, rfl, hx0, hx1, hC, hK⟩
  replace HV := hide ((unhide HV).draw hC hK)
  have hzW2 := hK.size
  clear hC hK
  obtain ⟨xn, rfl⟩ : ∃ q : Nat, x = (q : Int) := ⟨x.toNat, by omega⟩
  go_wp2_with fail
  refine (unhide QD cb ba bm bc H B1 U1 xn _ (unhide HV).cur (unhide HV).bays (by omega) hb7 (by omega)).mono ?_
  rintro e W3 hA
  obtain ⟨ro, lm, lc, L, rfl, hlm, hR, hC, hK⟩ := hA
  have HRL : Hid (RU U1 W3.heap.size W3 ro lm lc L) := ru_of (hR.mono (by omega))
  clear hR
  replace HV := hide ((unhide HV).draw hC hK)
  have hzW3 := hK.size
  clear hC hK
  obtain ⟨U2, eU2⟩ : ∃ z, z = W3.heap.size := ⟨_, rfl⟩
  rw [← eU2] at HRL
  have hU2 : U2 ≤ W3.heap.size := by omega
  have hU12 : U1 ≤ U2 := by omega
  clear eU2
  go_wp2_with fail
  refine (unhide QB _ (unhide HV).cur 4 (by omega)).mono ?_
  rintro e W4 ⟨y, rfl, hy0, hy1, hC, hK⟩
  replace HV := hide ((unhide HV).draw hC hK)
  replace HRL := hide ((unhide HRL).draw hK (by omega))
  have hzW4 := hK.size
  clear hC hK
  have hU24 : U2 ≤ W4.heap.size := by omega
  have HST := hide (rowB_new 40 9 eStow W4 U2 hU24)
  have hb := Below.alloc1 W4 (.cells #[] 40)
  have hb2 := hb.size
  replace HV := hide ((unhide HV).step hb)
  replace HRL := hide ((unhide HRL).step hb)
  clear hb
  have hU25 : U2 ≤ (W4.alloc (.cells #[] 40)).heap.size := by omega
  clear hb2 hzW2 hzW3 hzW4 hU2 hU1
  go_wp2_with fail
  go_loopg [10, 11] lm (fun gg sv iv wr => ∃ (i : Nat) (so : Option Addr) (sm sc : Nat) (T L : List StowT), i ≤ lm ∧ gg = lm - i ∧ sv = .slice so sm sc ∧ iv = .int .i64 i ∧ sm ≤ i ∧ U2 ≤ wr.heap.size ∧ Hid (Vo w cb n v B1 U1 (.slice ba bm bc) H wr) ∧ Hid (RU U1 U2 wr ro lm lc L) ∧ Hid (RowB 40 9 eStow U2 wr so sm sc T))
  case atStart => exact ⟨0, _, _, _, _, L, Nat.zero_le _, rfl, rfl, rfl, Nat.le_refl _, hU25, HV, HRL, HST⟩
  case round =>
    clear HV HRL HST hU25 hU24
    obtain ⟨i, so, sm, sc, T, L, hi, rfl, rfl, rfl, hsm, hU2, HV, HRL, HST⟩ := hrel
    by_cases hil : i < lm
    · have hili : (i : Int) < (lm : Int) := by omega
      obtain ⟨g, rfl⟩ := (unhide HRL).isAt (by omega)
      have hgo := (unhide HRL).own
      have hg1 := hgo.1
      have hg2 := hgo.2.1
      clear hgo
      have hiL : i < L.length := by rw [(unhide HRL).row.len (by omega)]; exact hil
      obtain ⟨s, wt, cl, co, fr, tt, sx, sy, sz, EX⟩ : ∃ s wt cl co fr tt sx sy sz, Hid (L.getD i default = (s, wt, cl, co, fr, tt, sx, sy, sz)) := ⟨_, _, _, _, _, _, _, _, _, rfl⟩
      have c4 : wr.cell? ⟨g, i * 9 + 4, none⟩ = some (.int .i64 fr) := by have h9 := (unhide HRL).cell hiL (j := 4) (by omega); rw [unhide EX] at h9; exact h9
      have cf := ((unhide HRL).own.2.2).frozen
      by_cases h1 : 1 + y < fr
      · obtain ⟨M1, hM1⟩ := (unhide HRL).putI hil 4 (Or.inl rfl) 0
        obtain ⟨WX, eWX⟩ : ∃ z, z = wr.setCell ⟨g, i * 9 + 4, none⟩ (.int .i64 0) := ⟨_, rfl⟩
        have hkp := keptC wr g (i * 9 + 4) (.int .i64 0)
        rw [← eWX] at hM1 hkp
        go_upto_region 11 with (fail)
        rw [← eWX]
        replace HST := hide ((unhide HST).kept hkp (fun g' _ hg' _ e => by have e : g' = g := e; omega))
        replace HV := hide ((unhide HV).keep1 hkp (fun b e => by have e : b = g := e; omega))
        have hUX : U2 ≤ WX.heap.size := by have := hkp.size; omega
        replace HRL := hide hM1
        clear hM1 hkp eWX c4 cf EX hiL h1
        obtain ⟨L, eL⟩ : ∃ z, z = M1 := ⟨_, rfl⟩
        rw [← eL] at HRL
        clear eL
        have hiL : i < L.length := by rw [(unhide HRL).row.len (by omega)]; exact hil
        obtain ⟨s, wt, cl, co, fr, tt, sx, sy, sz, EX⟩ : ∃ s wt cl co fr tt sx sy sz, Hid (L.getD i default = (s, wt, cl, co, fr, tt, sx, sy, sz)) := ⟨_, _, _, _, _, _, _, _, _, rfl⟩
        have c5 : WX.cell? ⟨g, i * 9 + 5, none⟩ = some (.int .i64 tt) := by have h9 := (unhide HRL).cell hiL (j := 5) (by omega); rw [unhide EX] at h9; exact h9
        have cf := ((unhide HRL).own.2.2).frozen
        by_cases h2 : tt < 1 + y
        · obtain ⟨M2, hM2⟩ := (unhide HRL).putI hil 5 (Or.inr rfl) (1 + y)
          have HRL2 := hide hM2
          have HST2 := hide ((unhide HST).kept (keptC WX g (i * 9 + 5) (.int .i64 (1 + y))) (fun g' _ hg' _ e => by have e : g' = g := e; omega))
          have HV2 := hide ((unhide HV).keep1 (keptC WX g (i * 9 + 5) (.int .i64 (1 + y))) (fun b e => by have e : b = g := e; omega))
          have hne : ((1 + y) != (1 + y)) = false := by simp
          have hz2 := (keptC WX g (i * 9 + 5) (.int .i64 (1 + y))).size
          have hz3 : U2 ≤ (WX.setCell ⟨g, i * 9 + 5, none⟩ (.int .i64 (1 + y))).heap.size := by omega
          clear hM2 HRL HST HV EX
          go_wp2
          go_roundg (lm - (i + 1))
          case measure => omega
          case rel => exact ⟨i + 1, so, sm, sc, T, M2, by omega, rfl, rfl, by go_num, by omega, hz3, HV2, HRL2, HST2⟩
        · by_cases h3 : tt = 1 + y
          · have hne : (tt != 1 + y) = false := by simpa using h3
            clear h3
            go_wp2
            go_roundg (lm - (i + 1))
            case measure => omega
            case rel => exact ⟨i + 1, so, sm, sc, T, L, by omega, rfl, rfl, by go_num, by omega, hUX, HV, HRL, HST⟩
          · have hne : (tt != 1 + y) = true := by simpa using h3
            clear h3 c5
            have c0 : WX.cell? ⟨g, i * 9, none⟩ = some (.string s) := by have h9 := (unhide HRL).cell hiL (j := 0) (by omega); rw [unhide EX] at h9; exact h9
            have c1 : WX.cell? ⟨g, i * 9 + 1, none⟩ = some (.int .i64 wt) := by have h9 := (unhide HRL).cell hiL (j := 1) (by omega); rw [unhide EX] at h9; exact h9
            have c2 : WX.cell? ⟨g, i * 9 + 2, none⟩ = some (.int .i64 cl) := by have h9 := (unhide HRL).cell hiL (j := 2) (by omega); rw [unhide EX] at h9; exact h9
            have c3 : WX.cell? ⟨g, i * 9 + 3, none⟩ = some (.bool co) := by have h9 := (unhide HRL).cell hiL (j := 3) (by omega); rw [unhide EX] at h9; exact h9
            have c4 : WX.cell? ⟨g, i * 9 + 4, none⟩ = some (.int .i64 fr) := by have h9 := (unhide HRL).cell hiL (j := 4) (by omega); rw [unhide EX] at h9; exact h9
            have c5 : WX.cell? ⟨g, i * 9 + 5, none⟩ = some (.int .i64 tt) := by have h9 := (unhide HRL).cell hiL (j := 5) (by omega); rw [unhide EX] at h9; exact h9
            have c6 : WX.cell? ⟨g, i * 9 + 6, none⟩ = some (.int .i64 sx) := by have h9 := (unhide HRL).cell hiL (j := 6) (by omega); rw [unhide EX] at h9; exact h9
            have c7 : WX.cell? ⟨g, i * 9 + 7, none⟩ = some (.int .i64 sy) := by have h9 := (unhide HRL).cell hiL (j := 7) (by omega); rw [unhide EX] at h9; exact h9
            have c8 : WX.cell? ⟨g, i * 9 + 8, none⟩ = some (.int .i64 sz) := by have h9 := (unhide HRL).cell hiL (j := 8) (by omega); rw [unhide EX] at h9; exact h9
            have hb := Below.alloc1 WX (.cells #[.string s, .int .i64 wt, .int .i64 cl, .bool co, .int .i64 fr, .int .i64 tt, .int .i64 sx, .int .i64 sy, .int .i64 sz] 40)
            have HG := hide (ownV_alloc WX #[.string s, .int .i64 wt, .int .i64 cl, .bool co, .int .i64 fr, .int .i64 tt, .int .i64 sx, .int .i64 sy, .int .i64 sz] 40)
            have hb9 := hb.size
            replace HV := hide ((unhide HV).step hb)
            replace HRL := hide ((unhide HRL).step hb)
            replace HST := hide ((unhide HST).below hb)
            clear hb EX
            go_wp2_with (at_builtin; go_must (refine wpList_appRow tyStow _ rfl (.tmp 70) (.tmp 75) rfl U2 so sm sc T rfl (unhide HST) (by omega) (by omega) WX.heap.size (s, wt, cl, co, fr, tt, sx, sy, sz) 1 rfl (unhide HG) ?_); intro g' cap' w' hL hKp hBg hat; have hz2 := hKp.size; have HV2 := hide ((unhide HV).keep1 hKp (fun b e => by have := (unhide HST).at' (by omega) e; omega)); have HRL2 := hide ((unhide HRL).kept hKp (fun b _ h2 e => by have := (unhide HST).at' (by omega) e; omega)); have HST2 := hide hL; clear hL hKp hBg hat)
            have hz3 : U2 ≤ w'.heap.size := by omega
            go_roundg (lm - (i + 1))
            case measure => omega
            case rel => exact ⟨i + 1, some ⟨g', 0, none⟩, sm + 1, cap', T ++ [(s, wt, cl, co, fr, tt, sx, sy, sz)], L, by omega, rfl, by go_num, by go_num, by omega, hz3, HV2, HRL2, HST2⟩
      · have hUX := hU2
        go_upto_region 11 with (fail)
        clear c4 cf EX hiL h1
        obtain ⟨WX, eWX⟩ : ∃ z, z = wr := ⟨_, rfl⟩
        rw [← eWX] at HV HRL HST hUX ⊢
        clear eWX
        have hiL : i < L.length := by rw [(unhide HRL).row.len (by omega)]; exact hil
        obtain ⟨s, wt, cl, co, fr, tt, sx, sy, sz, EX⟩ : ∃ s wt cl co fr tt sx sy sz, Hid (L.getD i default = (s, wt, cl, co, fr, tt, sx, sy, sz)) := ⟨_, _, _, _, _, _, _, _, _, rfl⟩
        have c5 : WX.cell? ⟨g, i * 9 + 5, none⟩ = some (.int .i64 tt) := by have h9 := (unhide HRL).cell hiL (j := 5) (by omega); rw [unhide EX] at h9; exact h9
        have cf := ((unhide HRL).own.2.2).frozen
        by_cases h2 : tt < 1 + y
        · obtain ⟨M2, hM2⟩ := (unhide HRL).putI hil 5 (Or.inr rfl) (1 + y)
          have HRL2 := hide hM2
          have HST2 := hide ((unhide HST).kept (keptC WX g (i * 9 + 5) (.int .i64 (1 + y))) (fun g' _ hg' _ e => by have e : g' = g := e; omega))
          have HV2 := hide ((unhide HV).keep1 (keptC WX g (i * 9 + 5) (.int .i64 (1 + y))) (fun b e => by have e : b = g := e; omega))
          have hne : ((1 + y) != (1 + y)) = false := by simp
          have hz2 := (keptC WX g (i * 9 + 5) (.int .i64 (1 + y))).size
          have hz3 : U2 ≤ (WX.setCell ⟨g, i * 9 + 5, none⟩ (.int .i64 (1 + y))).heap.size := by omega
          clear hM2 HRL HST HV EX
          go_wp2
          go_roundg (lm - (i + 1))
          case measure => omega
          case rel => exact ⟨i + 1, so, sm, sc, T, M2, by omega, rfl, rfl, by go_num, by omega, hz3, HV2, HRL2, HST2⟩
        · by_cases h3 : tt = 1 + y
          · have hne : (tt != 1 + y) = false := by simpa using h3
            clear h3
            go_wp2
            go_roundg (lm - (i + 1))
            case measure => omega
            case rel => exact ⟨i + 1, so, sm, sc, T, L, by omega, rfl, rfl, by go_num, by omega, hUX, HV, HRL, HST⟩
          · have hne : (tt != 1 + y) = true := by simpa using h3
            clear h3 c5
            have c0 : WX.cell? ⟨g, i * 9, none⟩ = some (.string s) := by have h9 := (unhide HRL).cell hiL (j := 0) (by omega); rw [unhide EX] at h9; exact h9
            have c1 : WX.cell? ⟨g, i * 9 + 1, none⟩ = some (.int .i64 wt) := by have h9 := (unhide HRL).cell hiL (j := 1) (by omega); rw [unhide EX] at h9; exact h9
            have c2 : WX.cell? ⟨g, i * 9 + 2, none⟩ = some (.int .i64 cl) := by have h9 := (unhide HRL).cell hiL (j := 2) (by omega); rw [unhide EX] at h9; exact h9
            have c3 : WX.cell? ⟨g, i * 9 + 3, none⟩ = some (.bool co) := by have h9 := (unhide HRL).cell hiL (j := 3) (by omega); rw [unhide EX] at h9; exact h9
            have c4 : WX.cell? ⟨g, i * 9 + 4, none⟩ = some (.int .i64 fr) := by have h9 := (unhide HRL).cell hiL (j := 4) (by omega); rw [unhide EX] at h9; exact h9
            have c5 : WX.cell? ⟨g, i * 9 + 5, none⟩ = some (.int .i64 tt) := by have h9 := (unhide HRL).cell hiL (j := 5) (by omega); rw [unhide EX] at h9; exact h9
            have c6 : WX.cell? ⟨g, i * 9 + 6, none⟩ = some (.int .i64 sx) := by have h9 := (unhide HRL).cell hiL (j := 6) (by omega); rw [unhide EX] at h9; exact h9
            have c7 : WX.cell? ⟨g, i * 9 + 7, none⟩ = some (.int .i64 sy) := by have h9 := (unhide HRL).cell hiL (j := 7) (by omega); rw [unhide EX] at h9; exact h9
            have c8 : WX.cell? ⟨g, i * 9 + 8, none⟩ = some (.int .i64 sz) := by have h9 := (unhide HRL).cell hiL (j := 8) (by omega); rw [unhide EX] at h9; exact h9
            have hb := Below.alloc1 WX (.cells #[.string s, .int .i64 wt, .int .i64 cl, .bool co, .int .i64 fr, .int .i64 tt, .int .i64 sx, .int .i64 sy, .int .i64 sz] 40)
            have HG := hide (ownV_alloc WX #[.string s, .int .i64 wt, .int .i64 cl, .bool co, .int .i64 fr, .int .i64 tt, .int .i64 sx, .int .i64 sy, .int .i64 sz] 40)
            have hb9 := hb.size
            replace HV := hide ((unhide HV).step hb)
            replace HRL := hide ((unhide HRL).step hb)
            replace HST := hide ((unhide HST).below hb)
            clear hb EX
            go_wp2_with (at_builtin; go_must (refine wpList_appRow tyStow _ rfl (.tmp 70) (.tmp 75) rfl U2 so sm sc T rfl (unhide HST) (by omega) (by omega) WX.heap.size (s, wt, cl, co, fr, tt, sx, sy, sz) 1 rfl (unhide HG) ?_); intro g' cap' w' hL hKp hBg hat; have hz2 := hKp.size; have HV2 := hide ((unhide HV).keep1 hKp (fun b e => by have := (unhide HST).at' (by omega) e; omega)); have HRL2 := hide ((unhide HRL).kept hKp (fun b _ h2 e => by have := (unhide HST).at' (by omega) e; omega)); have HST2 := hide hL; clear hL hKp hBg hat)
            have hz3 : U2 ≤ w'.heap.size := by omega
            go_roundg (lm - (i + 1))
            case measure => omega
            case rel => exact ⟨i + 1, some ⟨g', 0, none⟩, sm + 1, cap', T ++ [(s, wt, cl, co, fr, tt, sx, sy, sz)], L, by omega, rfl, by go_num, by go_num, by omega, hz3, HV2, HRL2, HST2⟩
    · have hili : ¬ (i : Int) < (lm : Int) := by omega
      obtain ⟨U3, eU3⟩ : ∃ z, z = wr.heap.size := ⟨_, rfl⟩
      have HSU := hide (ru_of (unhide HST))
      rw [← eU3] at HSU hU2
      obtain ⟨W6, eW6⟩ : ∃ z, z = wr.alloc (.cells #[] 40) := ⟨_, rfl⟩
      have hb := Below.alloc1 wr (.cells #[] 40)
      have HPL := hide (rowB_new 40 9 eStow wr U3 (by omega))
      rw [← eW6] at hb HPL
      go_upto_region 16 with (fail)
      rw [← eW6]
      have hU3 : U3 ≤ W6.heap.size := by have := hb.size; omega
      clear HST eW6 eU3
      replace HV := hide ((unhide HV).step hb)
      replace HRL := hide ((unhide HRL).step hb)
      replace HSU := hide ((unhide HSU).step hb)
      clear hb
      have HPU := hide (ru_of (unhide HPL))
      obtain ⟨U4, eU4⟩ : ∃ z, z = W6.heap.size := ⟨_, rfl⟩
      rw [← eU4] at HPU hU3
      have hU4 : U4 ≤ W6.heap.size := by omega
      clear eU4 HPL
      obtain ⟨po, epo⟩ : ∃ z, z = (some ⟨wr.heap.size, 0, none⟩ : Option Addr) := ⟨_, rfl⟩
      rw [← epo] at HPU ⊢
      clear epo
      go_wp2_with fail
      refine (unhide QB _ (unhide HV).cur 6 (by omega)).mono ?_
      rintro e W7 ⟨x2, rfl, hx20, hx21, hC, hK⟩
      replace HV := hide ((unhide HV).draw hC hK)
      replace HRL := hide ((unhide HRL).draw hK (by omega))
      replace HSU := hide ((unhide HSU).draw hK (by omega))
      replace HPU := hide ((unhide HPU).draw hK (by omega))
      have hzW7 := hK.size
      clear hC hK
      obtain ⟨x2n, rfl⟩ : ∃ q : Nat, x2 = (q : Int) := ⟨x2.toNat, by omega⟩
      go_wp2_with fail
      refine (unhide QD cb ba bm bc H B1 U1 x2n _ (unhide HV).cur (unhide HV).bays (by omega) hb7 (by omega)).mono ?_
      rintro e W8 hA
      obtain ⟨mo, mm, mc, M, rfl, hmm, hR, hC, hK⟩ := hA
      have HMO : Hid (RU U4 W8.heap.size W8 mo mm mc M) := ru_of (hR.mono (by omega))
      clear hR
      replace HV := hide ((unhide HV).draw hC hK)
      replace HRL := hide ((unhide HRL).draw hK (by omega))
      replace HSU := hide ((unhide HSU).draw hK (by omega))
      replace HPU := hide ((unhide HPU).draw hK (by omega))
      have hzW8 := hK.size
      clear hC hK
      obtain ⟨U5, eU5⟩ : ∃ z, z = W8.heap.size := ⟨_, rfl⟩
      rw [← eU5] at HMO
      have hU5 : U5 ≤ W8.heap.size := by omega
      have hU45 : U4 ≤ U5 := by omega
      have HPN : Hid (∀ b, U4 ≤ b → b < U5 → po ≠ some ⟨b, 0, none⟩) := fun b h1 h2 e => by have := (unhide HPU).lt b e; omega
      have HPL := hide (unhide HPU).row
      clear eU5 HPU hzW7 hzW8 hU4
      go_wp2_with fail
      go_loopg [12, 14] mm (fun gg pv iv wr => ∃ (i : Nat) (po : Option Addr) (pm pc : Nat) (Pl : List StowT), i ≤ mm ∧ gg = mm - i ∧ pv = .slice po pm pc ∧ iv = .int .i64 i ∧ pm ≤ i ∧ U5 ≤ wr.heap.size ∧ Hid (Vo w cb n v B1 U1 (.slice ba bm bc) H wr) ∧ Hid (RU U1 U2 wr ro lm lc L) ∧ Hid (RU U2 U3 wr so sm sc T) ∧ Hid (RU U4 U5 wr mo mm mc M) ∧ Hid (RowB 40 9 eStow U3 wr po pm pc Pl) ∧ Hid (∀ b, U4 ≤ b → b < U5 → po ≠ some ⟨b, 0, none⟩))
      case atStart => exact ⟨0, po, 0, 0, [], Nat.zero_le _, rfl, rfl, rfl, Nat.le_refl _, hU5, HV, HRL, HSU, HMO, HPL, HPN⟩
      case round =>
        clear HV HRL HSU HMO HPL HPN hU5 hi hil hili hsm
        obtain ⟨i, po, pm, pc, Pl, hi, rfl, rfl, rfl, hpm, hU5, HV, HRL, HSU, HMO, HPL, HPN⟩ := hrel
        by_cases hil : i < mm
        · have hili : (i : Int) < (mm : Int) := by omega
          obtain ⟨gm, rfl⟩ := (unhide HMO).isAt (by omega)
          have hiL : i < M.length := by rw [(unhide HMO).row.len (by omega)]; exact hil
          obtain ⟨s, wt, cl, co, fr, tt, sx, sy, sz, EX⟩ : ∃ s wt cl co fr tt sx sy sz, Hid (M.getD i default = (s, wt, cl, co, fr, tt, sx, sy, sz)) := ⟨_, _, _, _, _, _, _, _, _, rfl⟩
          have c0 : wr.cell? ⟨gm, i * 9, none⟩ = some (.string s) := by have h9 := (unhide HMO).cell hiL (j := 0) (by omega); rw [unhide EX] at h9; exact h9
          have c1 : wr.cell? ⟨gm, i * 9 + 1, none⟩ = some (.int .i64 wt) := by have h9 := (unhide HMO).cell hiL (j := 1) (by omega); rw [unhide EX] at h9; exact h9
          have c2 : wr.cell? ⟨gm, i * 9 + 2, none⟩ = some (.int .i64 cl) := by have h9 := (unhide HMO).cell hiL (j := 2) (by omega); rw [unhide EX] at h9; exact h9
          have c3 : wr.cell? ⟨gm, i * 9 + 3, none⟩ = some (.bool co) := by have h9 := (unhide HMO).cell hiL (j := 3) (by omega); rw [unhide EX] at h9; exact h9
          have c4 : wr.cell? ⟨gm, i * 9 + 4, none⟩ = some (.int .i64 fr) := by have h9 := (unhide HMO).cell hiL (j := 4) (by omega); rw [unhide EX] at h9; exact h9
          have c5 : wr.cell? ⟨gm, i * 9 + 5, none⟩ = some (.int .i64 tt) := by have h9 := (unhide HMO).cell hiL (j := 5) (by omega); rw [unhide EX] at h9; exact h9
          have c6 : wr.cell? ⟨gm, i * 9 + 6, none⟩ = some (.int .i64 sx) := by have h9 := (unhide HMO).cell hiL (j := 6) (by omega); rw [unhide EX] at h9; exact h9
          have c7 : wr.cell? ⟨gm, i * 9 + 7, none⟩ = some (.int .i64 sy) := by have h9 := (unhide HMO).cell hiL (j := 7) (by omega); rw [unhide EX] at h9; exact h9
          have c8 : wr.cell? ⟨gm, i * 9 + 8, none⟩ = some (.int .i64 sz) := by have h9 := (unhide HMO).cell hiL (j := 8) (by omega); rw [unhide EX] at h9; exact h9
          have HPU := hide (ru_of (unhide HPL))
          obtain ⟨V5, eV5⟩ : ∃ z, z = wr.alloc (.cells #[.string s, .int .i64 wt, .int .i64 cl, .bool co, .int .i64 fr, .int .i64 tt, .int .i64 sx, .int .i64 sy, .int .i64 sz] 40) := ⟨_, rfl⟩
          have hb := Below.alloc1 wr (.cells #[.string s, .int .i64 wt, .int .i64 cl, .bool co, .int .i64 fr, .int .i64 tt, .int .i64 sx, .int .i64 sy, .int .i64 sz] 40)
          have HX := hide (ownV_alloc wr #[.string s, .int .i64 wt, .int .i64 cl, .bool co, .int .i64 fr, .int .i64 tt, .int .i64 sx, .int .i64 sy, .int .i64 sz] 40)
          rw [← eV5] at hb HX
          go_upto_region 21 with (fail)
          rw [← eV5]
          obtain ⟨gx, egx⟩ : ∃ z, z = wr.heap.size := ⟨_, rfl⟩
          rw [← egx] at HX HPU hU5 ⊢
          have hgx : gx < V5.heap.size := (unhide HX).lt
          clear eV5 HPL EX hiL c0 c1 c2 c3 c4 c5 c6 c7 c8 egx
          replace HV := hide ((unhide HV).step hb)
          replace HRL := hide ((unhide HRL).step hb)
          replace HSU := hide ((unhide HSU).step hb)
          replace HMO := hide ((unhide HMO).step hb)
          replace HPU := hide ((unhide HPU).step hb)
          clear hb
          have x0 := (unhide HX).cell (i := 4) rfl
          have xf := (unhide HX).frozen
          obtain ⟨V6, eV6⟩ : ∃ Wq, Wq = V5.setCell ⟨gx, 4, none⟩ (.int .i64 (1 + y)) := ⟨_, rfl⟩
          have hkp := keptC V5 gx 4 (.int .i64 (1 + y))
          rw [← eV6] at hkp
          replace HX := hide ((unhide HX).set 4 (.int .i64 (1 + y)) (by simp))
          rw [← eV6] at HX
          go_upto_region 22 with (fail)
          rw [← eV6]
          replace HV := hide ((unhide HV).keep1 hkp (fun b e => by have e : b = gx := e; omega))
          replace HRL := hide ((unhide HRL).kept hkp (fun b _ h2 e => by have e : b = gx := e; omega))
          replace HSU := hide ((unhide HSU).kept hkp (fun b _ h2 e => by have e : b = gx := e; omega))
          replace HMO := hide ((unhide HMO).kept hkp (fun b _ h2 e => by have e : b = gx := e; omega))
          replace HPU := hide ((unhide HPU).kept hkp (fun b _ h2 e => by have e : b = gx := e; omega))
          have hzV6 := hkp.size
          clear hkp eV6 x0 xf
          go_wp2_with fail
          refine (unhide QB _ (unhide HV).cur 3 (by omega)).mono ?_
          rintro e V7 ⟨z, rfl, hz0, hz1, hC, hK⟩
          replace HV := hide ((unhide HV).draw hC hK)
          replace HRL := hide ((unhide HRL).draw hK (by omega))
          replace HSU := hide ((unhide HSU).draw hK (by omega))
          replace HMO := hide ((unhide HMO).draw hK (by omega))
          replace HPU := hide ((unhide HPU).draw hK (by omega))
          replace HX := hide ((unhide HX).kept hK (fun e => by have e : gx = cb := e; omega))
          have hzV7 := hK.size
          clear hC hK
          have x0' := (unhide HX).cell (i := 5) rfl
          clear x0'
          have x0 := (unhide HX).cell (i := 5) rfl
          have xf := (unhide HX).frozen
          obtain ⟨V8, eV8⟩ : ∃ Wq, Wq = V7.setCell ⟨gx, 5, none⟩ (.int .i64 (1 + y + 1 + z)) := ⟨_, rfl⟩
          have hkp := keptC V7 gx 5 (.int .i64 (1 + y + 1 + z))
          rw [← eV8] at hkp
          replace HX := hide ((unhide HX).set 5 (.int .i64 (1 + y + 1 + z)) (by simp))
          rw [← eV8] at HX
          go_upto_region 23 with (fail)
          rw [← eV8]
          replace HV := hide ((unhide HV).keep1 hkp (fun b e => by have e : b = gx := e; omega))
          replace HRL := hide ((unhide HRL).kept hkp (fun b _ h2 e => by have e : b = gx := e; omega))
          replace HSU := hide ((unhide HSU).kept hkp (fun b _ h2 e => by have e : b = gx := e; omega))
          replace HMO := hide ((unhide HMO).kept hkp (fun b _ h2 e => by have e : b = gx := e; omega))
          replace HPU := hide ((unhide HPU).kept hkp (fun b _ h2 e => by have e : b = gx := e; omega))
          have hzV8 := hkp.size
          clear hkp eV8 x0 xf
          have x6 := (unhide HX).cell (i := 6) rfl
          have x7 := (unhide HX).cell (i := 7) rfl
          have x8 := (unhide HX).cell (i := 8) rfl
          have QT := hide fun V (hV : RStow V (.slice so sm sc) T) => unhide QT0 V so sm sc T sx sy sz hV
          obtain ⟨a, ea⟩ : ∃ z, z = atV T (sx, sy, sz) := ⟨_, rfl⟩
          rw [← ea] at QT
          clear ea
          go_wp2_with fail
          refine (unhide QT _ ((unhide HSU).row.recs (by omega))).mono ?_
          rintro e V9 ⟨rfl, hb⟩
          have hzV9 := hb.size
          replace HV := hide ((unhide HV).step hb)
          replace HRL := hide ((unhide HRL).step hb)
          replace HSU := hide ((unhide HSU).step hb)
          replace HMO := hide ((unhide HMO).step hb)
          replace HPU := hide ((unhide HPU).step hb)
          replace HX := hide ((unhide HX).step hb)
          clear hb
          clear x6 x7 x8 QT
          by_cases ha : a < 0
          · have x0 := (unhide HX).cell (i := 0) rfl
            have x1 := (unhide HX).cell (i := 1) rfl
            have x2 := (unhide HX).cell (i := 2) rfl
            have x3 := (unhide HX).cell (i := 3) rfl
            have x4 := (unhide HX).cell (i := 4) rfl
            have x5 := (unhide HX).cell (i := 5) rfl
            have x6 := (unhide HX).cell (i := 6) rfl
            have x7 := (unhide HX).cell (i := 7) rfl
            have x8 := (unhide HX).cell (i := 8) rfl
            have hb := Below.alloc1 V9 (.cells #[.string s, .int .i64 wt, .int .i64 cl, .bool co, .int .i64 (1 + y), .int .i64 (1 + y + 1 + z), .int .i64 sx, .int .i64 sy, .int .i64 sz] 40)
            have HG := hide (ownV_alloc V9 #[.string s, .int .i64 wt, .int .i64 cl, .bool co, .int .i64 (1 + y), .int .i64 (1 + y + 1 + z), .int .i64 sx, .int .i64 sy, .int .i64 sz] 40)
            have hb9 := hb.size
            replace HV := hide ((unhide HV).step hb)
            replace HRL := hide ((unhide HRL).step hb)
            replace HSU := hide ((unhide HSU).step hb)
            replace HMO := hide ((unhide HMO).step hb)
            replace HPU := hide ((unhide HPU).step hb)
            have hB3 : U3 ≤ (V9.alloc (.cells #[.string s, .int .i64 wt, .int .i64 cl, .bool co, .int .i64 (1 + y), .int .i64 (1 + y + 1 + z), .int .i64 sx, .int .i64 sy, .int .i64 sz] 40)).heap.size := by omega
            clear hb
            go_wp2_with (at_builtin; go_must (refine wpList_appRow tyStow _ rfl (.tmp 112) (.tmp 114) rfl U3 po pm pc Pl rfl (unhide HPU).row hB3 (by omega) V9.heap.size (s, wt, cl, co, 1 + y, 1 + y + 1 + z, sx, sy, sz) 1 rfl (unhide HG) ?_); intro g' cap' w' hL hKp hBg hat; have hz2 := hKp.size; have HV2 := hide ((unhide HV).keep1 hKp (fun b e => by have := (unhide HPU).row.at' (by omega) e; omega)); have HRL2 := hide ((unhide HRL).kept hKp (fun b _ h2 e => by have := (unhide HPU).row.at' (by omega) e; omega)); have HSU2 := hide ((unhide HSU).kept hKp (fun b _ h2 e => by have := (unhide HPU).row.at' (by omega) e; omega)); have HMO2 := hide ((unhide HMO).kept hKp (fun b h1 h2 e => unhide HPN b h1 h2 e)); have HPL2 := hide hL; have HPN2 : Hid (∀ b, U4 ≤ b → b < U5 → (some ⟨g', 0, none⟩ : Option Addr) ≠ some ⟨b, 0, none⟩) := (fun b h1 h2 e => hat.elim (fun e' => unhide HPN b h1 h2 (e'.trans e)) (fun e' => by simp only [Option.some.injEq, Addr.mk.injEq, and_true] at e; omega)); clear hL hKp hBg hat)
            have hz3 : U5 ≤ w'.heap.size := by omega
            go_roundg (mm - (i + 1))
            case measure => omega
            case rel => exact ⟨i + 1, some ⟨g', 0, none⟩, pm + 1, cap', Pl ++ [(s, wt, cl, co, 1 + y, 1 + y + 1 + z, sx, sy, sz)], by omega, rfl, by go_num, by go_num, by omega, hz3, HV2, HRL2, HSU2, HMO2, HPL2, HPN2⟩
          · go_wp2_with fail
            refine (unhide QO _ (unhide HV).cur 12 (by omega) (by omega)).mono ?_
            rintro e V10 ⟨q, rfl, hC, hK⟩
            replace HV := hide ((unhide HV).draw hC hK)
            replace HRL := hide ((unhide HRL).draw hK (by omega))
            replace HSU := hide ((unhide HSU).draw hK (by omega))
            replace HMO := hide ((unhide HMO).draw hK (by omega))
            replace HPU := hide ((unhide HPU).draw hK (by omega))
            replace HX := hide ((unhide HX).kept hK (fun e => by have e : gx = cb := e; omega))
            have hzV10 := hK.size
            clear hC hK
            cases q
            · have hz3 : U5 ≤ V10.heap.size := by omega
              have HPL2 := hide (unhide HPU).row
              go_wp2
              go_roundg (mm - (i + 1))
              case measure => omega
              case rel => exact ⟨i + 1, po, pm, pc, Pl, by omega, rfl, rfl, by go_num, by omega, hz3, HV, HRL, HSU, HMO, HPL2, HPN⟩
            · have x0 := (unhide HX).cell (i := 0) rfl
              have x1 := (unhide HX).cell (i := 1) rfl
              have x2 := (unhide HX).cell (i := 2) rfl
              have x3 := (unhide HX).cell (i := 3) rfl
              have x4 := (unhide HX).cell (i := 4) rfl
              have x5 := (unhide HX).cell (i := 5) rfl
              have x6 := (unhide HX).cell (i := 6) rfl
              have x7 := (unhide HX).cell (i := 7) rfl
              have x8 := (unhide HX).cell (i := 8) rfl
              have hb := Below.alloc1 V10 (.cells #[.string s, .int .i64 wt, .int .i64 cl, .bool co, .int .i64 (1 + y), .int .i64 (1 + y + 1 + z), .int .i64 sx, .int .i64 sy, .int .i64 sz] 40)
              have HG := hide (ownV_alloc V10 #[.string s, .int .i64 wt, .int .i64 cl, .bool co, .int .i64 (1 + y), .int .i64 (1 + y + 1 + z), .int .i64 sx, .int .i64 sy, .int .i64 sz] 40)
              have hb9 := hb.size
              replace HV := hide ((unhide HV).step hb)
              replace HRL := hide ((unhide HRL).step hb)
              replace HSU := hide ((unhide HSU).step hb)
              replace HMO := hide ((unhide HMO).step hb)
              replace HPU := hide ((unhide HPU).step hb)
              have hB3 : U3 ≤ (V10.alloc (.cells #[.string s, .int .i64 wt, .int .i64 cl, .bool co, .int .i64 (1 + y), .int .i64 (1 + y + 1 + z), .int .i64 sx, .int .i64 sy, .int .i64 sz] 40)).heap.size := by omega
              clear hb
              go_wp2_with (at_builtin; go_must (refine wpList_appRow tyStow _ rfl (.tmp 112) (.tmp 114) rfl U3 po pm pc Pl rfl (unhide HPU).row hB3 (by omega) V10.heap.size (s, wt, cl, co, 1 + y, 1 + y + 1 + z, sx, sy, sz) 1 rfl (unhide HG) ?_); intro g' cap' w' hL hKp hBg hat; have hz2 := hKp.size; have HV2 := hide ((unhide HV).keep1 hKp (fun b e => by have := (unhide HPU).row.at' (by omega) e; omega)); have HRL2 := hide ((unhide HRL).kept hKp (fun b _ h2 e => by have := (unhide HPU).row.at' (by omega) e; omega)); have HSU2 := hide ((unhide HSU).kept hKp (fun b _ h2 e => by have := (unhide HPU).row.at' (by omega) e; omega)); have HMO2 := hide ((unhide HMO).kept hKp (fun b h1 h2 e => unhide HPN b h1 h2 e)); have HPL2 := hide hL; have HPN2 : Hid (∀ b, U4 ≤ b → b < U5 → (some ⟨g', 0, none⟩ : Option Addr) ≠ some ⟨b, 0, none⟩) := (fun b h1 h2 e => hat.elim (fun e' => unhide HPN b h1 h2 (e'.trans e)) (fun e' => by simp only [Option.some.injEq, Addr.mk.injEq, and_true] at e; omega)); clear hL hKp hBg hat)
              have hz3 : U5 ≤ w'.heap.size := by omega
              go_roundg (mm - (i + 1))
              case measure => omega
              case rel => exact ⟨i + 1, some ⟨g', 0, none⟩, pm + 1, cap', Pl ++ [(s, wt, cl, co, 1 + y, 1 + y + 1 + z, sx, sy, sz)], by omega, rfl, by go_num, by go_num, by omega, hz3, HV2, HRL2, HSU2, HMO2, HPL2, HPN2⟩
        · have hili : ¬ (i : Int) < (mm : Int) := by omega
          have hcU : cb < U1 := by omega
          have hPl := (unhide HPL).len (by omega)
          go_wp2_with fail
          refine (unhide QM cb ro lm lc L U1 _ (unhide HV).cur (unhide HRL).row hcU (by omega)).mono ?_
          rintro e Y1 hA
          obtain ⟨ro', m', c', L', rfl, hm', hR, hC, hK⟩ := hA
          replace HV := hide ((unhide HV).keep hK hC (fun b e => e.elim Or.inl (fun e => Or.inr ((unhide HRL).row.at' (by omega) e))))
          replace HPL := hide ((unhide HPL).kept hK (fun g _ hg _ e => e.elim (fun e => by omega) (fun e => by have := (unhide HRL).lt g e; omega)))
          have HRM := hide hR
          have hzY1 := hK.size
          clear hR hC hK HRL HSU HMO HPN
          go_wp2_with fail
          refine (unhide QO _ (unhide HV).cur 25 (by omega) (by omega)).mono ?_
          rintro e Y2 ⟨q, rfl, hC, hK⟩
          replace HV := hide ((unhide HV).draw hC hK)
          replace HPL := hide ((unhide HPL).kept hK (fun g _ hg _ e => by have e : g = cb := e; omega))
          replace HRM := hide ((unhide HRM).kept hK (fun g _ hg _ e => by have e : g = cb := e; omega))
          have hzY2 := hK.size
          clear hC hK
          cases q
          · have HF : Hid (VoyAns w (.returned (.tuple #[.slice ba bm bc, .slice ro' m' c', .int .i64 (1 + y), .slice po pm pc])) Y2) := ⟨_, _, _, H, _, _, _, L', _, _, _, _, Pl, rfl, (unhide HV).bays.inn, (unhide HRM).recs (by omega), by have := (unhide HRM).len (by omega); omega, (unhide HPL).recs (by omega), by omega, (unhide HV).bel⟩
            clear HV HRM HPL
            go_wp2
            refine bodyPost_ret (v := .tuple #[.slice ba bm bc, .slice ro' m' c', .int .i64 (1 + y), .slice po pm pc]) (by simp [results, Try.results5, go_sem]) rfl ?_
            exact unhide HF
          · have hb := Below.alloc1 Y2 (.cells #[.int .i64 (-1), .int .i64 0, .int .i64 19, .int .i64 20] 3)
            have HI := hide (ownV_alloc Y2 #[.int .i64 (-1), .int .i64 0, .int .i64 19, .int .i64 20] 3)
            have hcY := (unhide HV).cur.lt
            have hne : ¬ Y2.heap.size = cb := by omega
            replace HV := hide ((unhide HV).step hb)
            replace HPL := hide ((unhide HPL).below hb)
            replace HRM := hide ((unhide HRM).below hb)
            clear hb
            go_wp2_with fail
            refine (unhide QP cb _ _ (unhide HV).cur (unhide HI) hne).mono ?_
            rintro e Y3 ⟨pt, rfl, hC, hK⟩
            replace HV := hide ((unhide HV).draw hC hK)
            replace HPL := hide ((unhide HPL).kept hK (fun g _ hg _ e => by have e : g = cb := e; omega))
            replace HRM := hide ((unhide HRM).kept hK (fun g _ hg _ e => by have e : g = cb := e; omega))
            have hzY3 := hK.size
            clear hC hK
            have HF : Hid (VoyAns w (.returned (.tuple #[.slice ba bm bc, .slice ro' m' c', .int .i64 (pt), .slice po pm pc])) Y3) := ⟨_, _, _, H, _, _, _, L', _, _, _, _, Pl, rfl, (unhide HV).bays.inn, (unhide HRM).recs (by omega), by have := (unhide HRM).len (by omega); omega, (unhide HPL).recs (by omega), by omega, (unhide HV).bel⟩
            clear HV HRM HPL
            go_wp2
            refine bodyPost_ret (v := .tuple #[.slice ba bm bc, .slice ro' m' c', .int .i64 (pt), .slice po pm pc]) (by simp [results, Try.results5, go_sem]) rfl ?_
            exact unhide HF

end Go.Proofs.Ytnfdokcpjcnknaa

/- How a slice of bytes that came in is opened. -/
namespace Go.Proofs.Ytnfdokcpjcnknaa
open Go.ChangeShapes Go.WideShapes Go.ChangeAt Go.RowKit

set_option maxRecDepth 100000 in
theorem open_bytes {H : Type} {enc : TypeId × Value → H} {W : World} {base : Nat} {v0 : Value} {d0 : DataW H} {p0 : List MemPlace} (hv : Value.okWide Try.prog W .any base 22 v0)
    (h0 : DataW.Trod enc Try.prog W 0 (fun _ => true) true 22 v0 d0 p0) : ∃ n, BytesIn W.heap.size W v0 n := by
  obtain ⟨a0, len, cap, rfl⟩ := okWide_slice Try.underlying22 hv
  obtain ⟨fuel, hf⟩ := h0
  rcases open_ints Try.underlying22 Try.underlying5 (by kernel_rfl) hf with ⟨hcs, _⟩ | ⟨x, l, c, zs, hcs, _, hl, hm, hz, _, hcell, hwz⟩
  · simp [Value.cells] at hcs
    obtain ⟨rfl, rfl, rfl⟩ := hcs
    exact ⟨0, none, 0, rfl, Nat.le_refl _, Nat.zero_le _, fun i hi => by omega⟩
  · simp [Value.cells] at hcs
    obtain ⟨rfl, rfl, rfl⟩ := hcs
    simp only [if_true] at hz
    refine ⟨len, some x, cap, rfl, hl, hm, fun i hi => ?_⟩
    obtain ⟨b, o, sp⟩ := x
    have hs : sp = none := by simpa [Addr.add] using World.cell?_spot (hcell 0 (by omega))
    subst hs
    have hc := hcell i (by omega)
    rw [add_plain] at hc
    have hb := bounds_u8 (hwz (zs.getD i 0) (by rw [getD_lt (show i < zs.length by omega)]; exact List.getElem_mem _))
    exact ⟨b, o, zs.getD i 0, rfl, lt_of_cell hc, hc, hb.1, by omega⟩

end Go.Proofs.Ytnfdokcpjcnknaa
