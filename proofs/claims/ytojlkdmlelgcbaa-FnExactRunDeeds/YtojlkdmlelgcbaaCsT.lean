/- Customs: the contract of the office's told. Written by wip/mkcst.py. -/
import Derived.Test.YtojlkdmlelgcbaaCsS
namespace Go.Proofs.Ytojlkdmlelgcbaa
open Go.RowKit

theorem tr_fill {w : World} {g i : Nat} {P : List TraderT} (h : OwnV w g (recCells 3 eTrader P)) (hi : i < P.length) (x y z : Int) :
    OwnV (((w.setCell ⟨g, i * 3, none⟩ (.int .i64 x)).setCell ⟨g, i * 3 + 1, none⟩ (.int .i64 y)).setCell ⟨g, i * 3 + 2, none⟩ (.int .i64 z)) g (recCells 3 eTrader (P.set i (x, y, z))) := by
  obtain ⟨p, ep⟩ : ∃ p, p = P.getD i default := ⟨_, rfl⟩
  obtain ⟨a, b, c⟩ := p
  have J : ∀ j' : Nat, j' < 3 → j' = 0 ∨ j' = 1 ∨ j' = 2 := fun _ _ => by omega
  have e1 := recG_set (n := 3) (enc := eTrader) P (i := i) (j := 0) (by omega) hi (x, b, c) (fun j' h1 h2 => by rw [← ep]; rcases J j' h1 with rfl | rfl | rfl <;> first | rfl | exact absurd rfl h2)
  have g1 : (P.set i (x, b, c)).getD i default = (x, b, c) := by rw [set_get default P hi, if_pos rfl]
  have e2 := recG_set (n := 3) (enc := eTrader) (P.set i (x, b, c)) (i := i) (j := 1) (by omega) (by rw [List.length_set]; exact hi) (x, y, c) (fun j' h1 h2 => by rw [g1]; rcases J j' h1 with rfl | rfl | rfl <;> first | rfl | exact absurd rfl h2)
  rw [List.set_set] at e2
  have g2 : (P.set i (x, y, c)).getD i default = (x, y, c) := by rw [set_get default P hi, if_pos rfl]
  have e3 := recG_set (n := 3) (enc := eTrader) (P.set i (x, y, c)) (i := i) (j := 2) (by omega) (by rw [List.length_set]; exact hi) (x, y, z) (fun j' h1 h2 => by rw [g2]; rcases J j' h1 with rfl | rfl | rfl <;> first | rfl | exact absurd rfl h2)
  rw [List.set_set] at e3
  have hl : i * 3 + 2 < (recCells 3 eTrader P).length := by rw [recCells_length]; omega
  have o1 := h.set (i * 3) (.int .i64 x) (by omega)
  rw [show (Value.int .i64 x) = eTrader (x, b, c) 0 from rfl, show i * 3 = i * 3 + 0 from rfl, e1] at o1
  have o2 := o1.set (i * 3 + 1) (.int .i64 y) (by rw [recCells_length, List.length_set]; omega)
  rw [show (Value.int .i64 y) = eTrader (x, y, c) 1 from rfl, e2] at o2
  have o3 := o2.set (i * 3 + 2) (.int .i64 z) (by rw [recCells_length, List.length_set]; omega)
  rw [show (Value.int .i64 z) = eTrader (x, y, z) 2 from rfl, e3] at o3
  exact o3
theorem made_trs (n : Nat) : (madeCells (vTrader 0 0 0).cells (n * 3)).toList = recCells 3 eTrader (padT n []) := by
  have hl : (recCells 3 eTrader (padT n [])).length = n * 3 := by rw [recCells_length, padT_len (by simp)]
  apply List.ext_getElem
  · rw [hl]; simp [madeCells]
  · intro i h1 h2
    rw [hl] at h2
    have e := recCells_get (n := 3) (enc := eTrader) (L := padT n []) (i := i / 3) (j := i % 3) (by rw [padT_len (by simp)]; omega) (by omega)
    rw [show i / 3 * 3 + i % 3 = i by omega, padT_nil (show i / 3 < n by omega)] at e
    have e2 := (List.getElem?_eq_some_iff.1 e).2
    rw [e2]
    simp only [madeCells, Array.toList_map, Array.toList_range, List.getElem_map, List.getElem_range]
    have : i % 3 = 0 ∨ i % 3 = 1 ∨ i % 3 = 2 := by omega
    rcases this with e | e | e <;> simp [vTrader, Value.cells, e, eTrader]
theorem trAt {w : World} {g i : Nat} {P : List TraderT} {mo bo bd : Int} (h : OwnV w g (recCells 3 eTrader P)) (hi : i < P.length) (hp : P.getD i default = (mo, bo, bd)) :
    w.cell? ⟨g, i * 3, none⟩ = some (.int .i64 mo) ∧ w.cell? ⟨g, i * 3 + 1, none⟩ = some (.int .i64 bo) ∧ w.cell? ⟨g, i * 3 + 2, none⟩ = some (.int .i64 bd) := by
  have c := fun j (hj : j < 3) => h.cell (recCells_get (enc := eTrader) hi hj)
  rw [hp] at c
  exact ⟨c 0 (by omega), c 1 (by omega), c 2 (by omega)⟩
/-- What is held while told works. -/
structure To (w wr : World) (go gl cap gp gr gt : Nat) (ok : Bool) (L : List LotT) (P : List TraderT) (tk : Int) (rs : List Value) (Q : List TraderT) : Prop where
  of : Of wr go gl cap gp ok L P tk
  res : OwnV wr gr rs
  trs : OwnV wr gt (recCells 3 eTrader Q)
  kept : Kept (fun b => b = gp ∨ w.heap.size ≤ b) w wr
  ap : go < w.heap.size ∧ gl < w.heap.size ∧ gp < w.heap.size ∧ w.heap.size ≤ gr ∧ gr < gt
section
variable {w wr w2 : World} {go gl cap gp gr gt : Nat} {ok : Bool} {L : List LotT} {P : List TraderT} {tk : Int} {rs : List Value} {Q : List TraderT}
theorem To.step (h : To w wr go gl cap gp gr gt ok L P tk rs Q) (hb : Below wr.heap.size wr w2) : To w w2 go gl cap gp gr gt ok L P tk rs Q := ⟨h.of.step hb, h.res.step hb, h.trs.step hb, h.kept.trans (kept_of_below hb), h.ap⟩
theorem To.told (h : To w wr go gl cap gp gr gt ok L P tk rs Q) (hk : Kept (fun b => b = gp) wr w2) (ho : OwnV w2 gp (recCells 5 ePur P)) : To w w2 go gl cap gp gr gt ok L P tk rs Q := by
  obtain ⟨a1, a2, a3, a4, a5⟩ := h.ap
  exact ⟨h.of.putP hk ho rfl, h.res.kept hk (fun e => by have e : gr = gp := e; omega), h.trs.kept hk (fun e => by have e : gt = gp := e; omega), h.kept.trans (hk.mono fun _ _ e => Or.inl e), h.ap⟩
theorem To.put (h : To w wr go gl cap gp gr gt ok L P tk rs Q) {k : Nat} (hk : k < Q.length) (x y z : Int) : To w (((wr.setCell ⟨gt, k * 3, none⟩ (.int .i64 x)).setCell ⟨gt, k * 3 + 1, none⟩ (.int .i64 y)).setCell ⟨gt, k * 3 + 2, none⟩ (.int .i64 z)) go gl cap gp gr gt ok L P tk rs (Q.set k (x, y, z)) := by
  obtain ⟨a1, a2, a3, a4, a5⟩ := h.ap
  have hk3 := kept3 wr gt (k * 3) (k * 3 + 1) (k * 3 + 2) (.int .i64 x) (.int .i64 y) (.int .i64 z)
  exact ⟨h.of.kept hk3 (fun e => by have e : go = gt := e; omega) (fun e => by have e : gl = gt := e; omega) (fun e => by have e : gp = gt := e; omega), h.res.kept hk3 (fun e => by have e : gr = gt := e; omega), tr_fill h.trs hk x y z, h.kept.trans (hk3.mono fun b _ e => Or.inr (by have e : b = gt := e; omega)), h.ap⟩
theorem To.fin (h : To w wr go gl cap gp gr gt ok L P tk [.slice none 0 0, .slice none 0 0, .int .i64 0] Q) (x y z : Value) : To w (((wr.setCell ⟨gr, 0, none⟩ x).setCell ⟨gr, 1, none⟩ y).setCell ⟨gr, 2, none⟩ z) go gl cap gp gr gt ok L P tk [x, y, z] Q := by
  obtain ⟨a1, a2, a3, a4, a5⟩ := h.ap
  have hk3 := kept3 wr gr 0 1 2 x y z
  exact ⟨h.of.kept hk3 (fun e => by have e : go = gr := e; omega) (fun e => by have e : gl = gr := e; omega) (fun e => by have e : gp = gr := e; omega), ((h.res.set 0 x (by simp)).set 1 y (by simp)).set 2 z (by simp), h.trs.kept hk3 (fun e => by have e : gt = gr := e; omega), h.kept.trans (hk3.mono fun b _ e => Or.inr (by have e : b = gr := e; omega)), h.ap⟩
end
def TdA (w : World) (gl cap gp : Nat) (L : List LotT) (P : List TraderT) (tk : Int) (e : Ending) (w' : World) : Prop :=
  ∃ gt, e = .returned (vHouse (.slice (some ⟨gl, 0, none⟩) L.length cap) (.slice (some ⟨gt, 0, none⟩) P.length P.length) tk) ∧ w.heap.size < gt ∧ OwnV w' gt (recCells 3 eTrader P) ∧ OwnV w' gl (recCells 7 eLot L) ∧ (L.length ≤ cap ∧ cap ≤ maxLen) ∧ Kept (fun b => b = gp) w w'

set_option maxRecDepth 100000 in
set_option maxHeartbeats 6400000 in
theorem told_any (go gl cap gp : Nat) (ok : Bool) (L : List LotT) (P : List TraderT) (tk : Int) (w : World) (h : Of w go gl cap gp ok L P tk) (hPs : P.length ≤ 1048576) :
    Calls Try.prog 45 #[.pointer (some ⟨go, 0, none⟩)] w fun e w' => TdA w gl cap gp L P tk e w' := by
  have hcap := h.capb
  have hmk := run_make_recs (P := Try.prog) 25 37 _ 3 24 Try.underlying25 Try.infoTrader .i64 .i64 P.length (by omega) (by omega)
  obtain ⟨Z, eZ⟩ : ∃ Z, Z = (vTrader 0 0 0).cells := ⟨_, rfl⟩
  have hlt := h.lt
  have hne := h.ap
  have HT0 : Hid (To w ((w.alloc (.cells #[.slice none 0 0, .slice none 0 0, .int .i64 0] 27)).alloc (.cells (madeCells Z (P.length * 3)) 37)) go gl cap gp w.heap.size (w.heap.size + 1) ok L P tk [.slice none 0 0, .slice none 0 0, .int .i64 0] (padT P.length (P.take 0))) := by
    have A1 := Below.alloc1 w (.cells #[.slice none 0 0, .slice none 0 0, .int .i64 0] 27)
    have A2 := Below.alloc1 (w.alloc (.cells #[.slice none 0 0, .slice none 0 0, .int .i64 0] 27)) (.cells (madeCells Z (P.length * 3)) 37)
    have o2 := ownV_alloc (w.alloc (.cells #[.slice none 0 0, .slice none 0 0, .int .i64 0] 27)) (madeCells Z (P.length * 3)) 37
    rw [World.size_alloc, eZ, made_trs, ← eZ] at o2
    exact ⟨(h.step A1).step A2, (ownV_alloc w #[.slice none 0 0, .slice none 0 0, .int .i64 0] 27).step A2, o2, kept_of_below (Below.step A1 A2), hlt.1, hlt.2.1, hlt.2.2, Nat.le_refl _, Nat.lt_succ_self _⟩
  have o2 := h.box.cell (i := 2) rfl
  have g2 := (h.step (Below.alloc1 w (.cells #[.slice none 0 0, .slice none 0 0, .int .i64 0] 27))).box.cell (i := 2) rfl
  rw [← eZ] at hmk
  clear h eZ
  go_enter Try.func45, Try.ntmps45
  go_upto_region 2 with (fail)
  obtain ⟨V, eV⟩ : ∃ V, V = (w.alloc (.cells #[.slice none 0 0, .slice none 0 0, .int .i64 0] 27)).alloc (.cells (madeCells Z (P.length * 3)) 37) := ⟨_, rfl⟩
  rw [← eV] at HT0 ⊢
  clear eV hmk o2 g2
  obtain ⟨gt, egt⟩ : ∃ g, g = w.heap.size + 1 := ⟨_, rfl⟩
  rw [← egt] at HT0 ⊢
  have hgt : w.heap.size < gt := by omega
  obtain ⟨gr, egr⟩ : ∃ g, g = w.heap.size := ⟨_, rfl⟩
  rw [← egr] at HT0 ⊢
  have hgr : gr < gt := by omega
  have hgrw : w.heap.size ≤ gr := by omega
  clear egt egr
  have n1 : ¬ gt = gr := by omega
  have n2 : ¬ gr = gt := by omega
  have n3 : ¬ go = gr := by omega
  have n4 : ¬ gr = go := by omega
  rw [show gr = gr from rfl] at HT0
  go_wp2
  go_loopg [13] P.length (fun g iv wr => ∃ k : Nat, k ≤ P.length ∧ g = P.length - k ∧ iv = .int .i64 k ∧ Hid (To w wr go gl cap gp gr gt ok L P tk [.slice none 0 0, .slice none 0 0, .int .i64 0] (padT P.length (P.take k))))
  case atStart => exact ⟨0, Nat.zero_le _, rfl, rfl, HT0⟩
  case round =>
    clear HT0
    obtain ⟨k, hk, rfl, rfl, HT⟩ := hrel
    have hlen : (padT P.length (P.take k)).length = P.length := padT_len (by rw [List.length_take]; omega)
    by_cases hkn : k < P.length
    · have hki : (k : Int) < P.length := by omega
      obtain ⟨pt, ept⟩ : ∃ p, p = P.getD k default := ⟨_, rfl⟩
      obtain ⟨mo, bn, bd⟩ := pt
      have Q1 := hide (purTold_any gp k P mo bn bd wr (unhide HT).of.pur hkn ept.symm)
      have ESET : Hid ((padT P.length (P.take k)).set k (mo, bn, bd) = padT P.length (P.take (k + 1))) := by
        have h9 := padT_set (n := P.length) (T := P.take k) (by rw [List.length_take]; omega) (mo, bn, bd)
        rw [show (P.take k).length = k by rw [List.length_take]; omega, ept, ← take_succ_getD P default hkn] at h9
        show _ = _
        rw [ept]
        exact h9
      have o2 := (unhide HT).of.box.cell (i := 2) rfl
      unfold vTrader at Q1
      clear ept
      go_wp2_with fail
      refine (unhide Q1).mono ?_
      rintro e w2 ⟨rfl, hO, hK⟩
      replace HT := hide ((unhide HT).told hK hO)
      clear hO hK Q1 o2
      obtain ⟨pq, epq⟩ : ∃ p, p = (padT P.length (P.take k)).getD k default := ⟨_, rfl⟩
      obtain ⟨q0, q1, q2⟩ := pq
      obtain ⟨c0, c1, c2⟩ := trAt (unhide HT).trs (by rw [hlen]; exact hkn) epq.symm
      have cf := (unhide HT).trs.frozen
      have HT2 := hide ((unhide HT).put (k := k) (by rw [hlen]; exact hkn) mo bn bd)
      rw [unhide ESET] at HT2
      clear epq ESET HT
      go_wp2
      go_roundg (P.length - (k + 1))
      case measure => omega
      case rel => exact ⟨k + 1, by omega, rfl, by go_num, HT2⟩
    · have ek : k = P.length := by omega
      rw [ek, List.take_length, padT_full] at HT
      clear ek
      have o1 := (unhide HT).of.box.cell (i := 1) rfl
      have o3 := (unhide HT).of.box.cell (i := 3) rfl
      have r0 := (unhide HT).res.cell (i := 0) rfl
      have r1 := (unhide HT).res.cell (i := 1) rfl
      have r2 := (unhide HT).res.cell (i := 2) rfl
      have rf := (unhide HT).res.frozen
      have HF := hide fun n => ((unhide HT).step (below_drewN (Below.refl _ _) n)).fin (.slice (some ⟨gl, 0, none⟩) L.length cap) (.slice (some ⟨gt, 0, none⟩) P.length P.length) (.int .i64 tk)
      go_upto_region 7 with (fail)
      go_cut [] (fun wx => Hid (To w wx go gl cap gp gr gt ok L P tk [.slice (some ⟨gl, 0, none⟩) L.length cap, .slice (some ⟨gt, 0, none⟩) P.length P.length, .int .i64 tk] P))
      case first =>
        go_region
        all_goals
          go_wp2_with fail
          go_meet
          first | exact hide (unhide HF _) | exact hide (unhide HF 0) | exact hide (unhide HF 1)
      case rest =>
      have HZ := hcut
      have k0 := (unhide HZ).res.cell (i := 0) rfl
      have k1 := (unhide HZ).res.cell (i := 1) rfl
      have k2 := (unhide HZ).res.cell (i := 2) rfl
      go_wp2
      refine bodyPost_ret (v := vHouse (.slice (some ⟨gl, 0, none⟩) L.length cap) (.slice (some ⟨gt, 0, none⟩) P.length P.length) tk) (by simp [results, Try.results45, go_sem, vHouse, k0, k1, k2]) rfl ?_
      exact ⟨gt, rfl, hgt, (unhide HZ).trs, (unhide HZ).of.own, hcap, (unhide HZ).kept.mono (fun b hb e => by rcases e with e | e; exact e; omega)⟩

end Go.Proofs.Ytojlkdmlelgcbaa
