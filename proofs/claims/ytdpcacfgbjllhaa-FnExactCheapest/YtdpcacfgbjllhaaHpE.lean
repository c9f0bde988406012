/- Contract of container/heap's down over the program's frontier. Written by wip/mkdown.py. -/
import Derived.Test.YtdpcacfgbjllhaaHpD
namespace Go.Proofs.Ytdpcacfgbjllhaa
open Go.RowKit

/-- What the steps down leave. -/
structure DnAns (w w' : World) (B gf g n cap m : Nat) (L L' : List Rc) : Prop where
  fr : Fr w' B gf g n cap L'
  mem : ∀ x, x ∈ L' ↔ x ∈ L
  kept : Kept (fun b => b = g) w w'
  out : ∀ k, m ≤ k → L'.getD k (0, 0) = L.getD k (0, 0)
theorem DnAns.bd {w W W' : World} {B gf g n cap m : Nat} {L L' : List Rc} (h : DnAns w W B gf g n cap m L L') (hb : Bd W W') : DnAns w W' B gf g n cap m L L' := ⟨h.fr.bd hb, h.mem, h.kept.trans (kept_of_below hb.below), h.out⟩

set_option maxRecDepth 10000 in
set_option maxHeartbeats 16000000 in
theorem down_any (B gf g n cap m : Nat) (L0 : List Rc) (w : World) (h : Fr w B gf g n cap L0) (hm : m ≤ n) (hd : HpDn L0 m 0) (hn : n ≤ 1000000) :
    Calls Try.prog 68 #[.iface 57 (.pointer (some ⟨gf, 0, none⟩)), .int .i64 0, .int .i64 (m : Int)] w fun e w' => ∃ b : Bool, e = .returned (.bool b) ∧ ∃ L', Hp L' m ∧ DnAns w w' B gf g n cap m L0 L' := by
  have HF0 := hide (⟨h, fun x => Iff.rfl, Kept.refl _ _, fun _ _ => rfl⟩ : DnAns w w B gf g n cap m L0 L0)
  have HU0 := hide hd
  clear h hd
  go_enter Try.func68, Try.ntmps68
  go_wp2_with fail
  go_loopg [7] m (fun g' iv wr => ∃ (i : Nat) (L : List Rc), i ≤ m ∧ g' = m - i ∧ iv = .int .i64 (i : Int) ∧ Hid (DnAns w wr B gf g n cap m L0 L) ∧ Hid (HpDn L m i))
  case atStart => exact ⟨0, L0, Nat.zero_le _, rfl, rfl, HF0, HU0⟩
  case round =>
    clear HF0 HU0
    obtain ⟨i, L, hi, eg, rfl, HF, HU⟩ := hrel
    have HG := hide eg
    clear eg
    have hlen := (unhide HF).fr.len
    have HL := hide hlen
    have hl2 : m ≤ L.length := by omega
    clear hlen
    have q1 : IntKind.i64.wrap (2 * (i : Int)) = 2 * (i : Int) := by rw [IntKind.wrap_i64]; omega
    obtain ⟨j1, ej⟩ : ∃ j, j = 2 * i + 1 := ⟨_, rfl⟩
    have q2 : IntKind.i64.wrap (2 * (i : Int) + 1) = (j1 : Int) := by rw [IntKind.wrap_i64]; omega
    obtain ⟨j2, ej2⟩ : ∃ j, j = j1 + 1 := ⟨_, rfl⟩
    have q3 : IntKind.i64.wrap ((j1 : Int) + 1) = (j2 : Int) := by rw [IntKind.wrap_i64]; omega
    have EJ := hide ej
    have EJ2 := hide ej2
    have hj1a : j1 ≤ 2 * i + 1 := by omega
    have hj1b : 2 * i + 1 ≤ j1 := by omega
    have hj2a : j2 ≤ j1 + 1 := by omega
    have hj2b : j1 + 1 ≤ j2 := by omega
    clear ej ej2
    by_cases c1 : m ≤ j1
    · have HP := hide ((unhide HU).stop (fun c h0 hc he => by omega))
      have d1 : (m : Int) ≤ (j1 : Int) := by omega
      go_wp2_with fail
      go_ret
      exact ⟨_, rfl, L, unhide HP, unhide HF⟩
    have d1 : ¬ (m : Int) ≤ (j1 : Int) := by omega
    have d1' : decide ((m : Int) ≤ (j1 : Int)) = false := decide_eq_false d1
    have d1n : decide (m ≤ j1) = false := decide_eq_false c1
    have d2 : ¬ (j1 : Int) < 0 := by omega
    by_cases c2 : j2 < m
    · have d3 : (j2 : Int) < (m : Int) := by omega
      have d3' : decide ((j2 : Int) < (m : Int)) = true := decide_eq_true d3
      have d3n : decide (j2 < m) = true := decide_eq_true c2
      have c0 := (unhide HF).fr.box.cell (i := 0) rfl
      have hM := methLess c0
      have HLS := hide (less_any _ L j2 j1 wr (unhide HF).fr.recs (by omega) (by omega))
      go_wp2_with fail
      refine (unhide HLS).mono ?_
      rintro e w1 ⟨rfl, hb⟩
      replace HF : Hid (DnAns w w1 B gf g n cap m L0 L) := (unhide HF).bd hb
      clear hb HLS hM c0
      by_cases c3 : rlt (L.getD j2 (0, 0)) (L.getD j1 (0, 0))
      · rw [decide_eq_true c3]
        have HMIN : Hid (∀ c, 0 < c → c < m → (c - 1) / 2 = i → ¬ rlt (L.getD c (0, 0)) (L.getD j2 (0, 0))) := fun c h0 hc he => by
          have e : c = j1 ∨ c = j2 := by omega
          rcases e with rfl | rfl
          · unfold rlt at *; omega
          · unfold rlt; omega
        have hjm : j2 < m := by omega
        have hjI : ((j2 - 1) / 2) = i := by omega
        have cL := (unhide HF).fr.box.cell (i := 0) rfl
        have hML := methLess cL
        have HL2 := hide (less_any _ L j2 i w1 (unhide HF).fr.recs (by omega) (by omega))
        go_wp2_with fail
        refine (unhide HL2).mono ?_
        rintro e w2 ⟨rfl, hb⟩
        replace HF : Hid (DnAns w w2 B gf g n cap m L0 L) := (unhide HF).bd hb
        clear hb HL2 hML cL
        by_cases hlt : rlt (L.getD j2 (0, 0)) (L.getD i (0, 0))
        case neg =>
          have HP := hide ((unhide HU).stop (fun c h0 hc he => by
            have h1 := unhide HMIN c h0 hc he
            unfold rlt at *
            omega))
          rw [decide_eq_false hlt]
          go_wp2_with fail
          go_ret
          exact ⟨_, rfl, L, unhide HP, unhide HF⟩
        rw [decide_eq_true hlt]
        have c1 := (unhide HF).fr.box.cell (i := 0) rfl
        have hM2 := methSwap c1
        have HSW := hide (swap_any B g n cap L i j2 w2 (unhide HF).fr.row (unhide HL) (by omega) (by omega))
        have HUN := hide ((unhide HU).next hl2 hjm hjI (by omega) hlt (unhide HMIN))
        have HMEM := hide (fun x => swp_mem (L := L) (i := i) (j := j2) (by omega) (by omega) x)
        have HOUT : Hid (∀ k, m ≤ k → (swp L i j2).getD k (0, 0) = L.getD k (0, 0)) := fun k hk => by rw [swp_at (by omega) (by omega), if_neg (by omega), if_neg (by omega)]
        go_wp2_with fail
        refine (unhide HSW).mono ?_
        rintro e w3 ⟨rfl, hr, hk⟩
        have HF2 : Hid (DnAns w w3 B gf g n cap m L0 (swp L i j2)) := ⟨(unhide HF).fr.swap hr hk, fun x => (unhide HMEM x).trans ((unhide HF).mem x), (unhide HF).kept.trans hk, fun k hkm => (unhide HOUT k hkm).trans ((unhide HF).out k hkm)⟩
        clear hr hk HSW hM2 c1
        go_wp2_with fail
        go_roundg (m - j2)
        case measure => have := unhide HG; omega
        case rel => exact ⟨j2, swp L i j2, Nat.le_of_lt hjm, rfl, rfl, HF2, HUN⟩
      · rw [decide_eq_false c3]
        have HMIN : Hid (∀ c, 0 < c → c < m → (c - 1) / 2 = i → ¬ rlt (L.getD c (0, 0)) (L.getD j1 (0, 0))) := fun c h0 hc he => by
          have e : c = j1 ∨ c = j2 := by omega
          rcases e with rfl | rfl
          · unfold rlt; omega
          · exact c3
        have hjm : j1 < m := by omega
        have hjI : ((j1 - 1) / 2) = i := by omega
        have cL := (unhide HF).fr.box.cell (i := 0) rfl
        have hML := methLess cL
        have HL2 := hide (less_any _ L j1 i w1 (unhide HF).fr.recs (by omega) (by omega))
        go_wp2_with fail
        refine (unhide HL2).mono ?_
        rintro e w2 ⟨rfl, hb⟩
        replace HF : Hid (DnAns w w2 B gf g n cap m L0 L) := (unhide HF).bd hb
        clear hb HL2 hML cL
        by_cases hlt : rlt (L.getD j1 (0, 0)) (L.getD i (0, 0))
        case neg =>
          have HP := hide ((unhide HU).stop (fun c h0 hc he => by
            have h1 := unhide HMIN c h0 hc he
            unfold rlt at *
            omega))
          rw [decide_eq_false hlt]
          go_wp2_with fail
          go_ret
          exact ⟨_, rfl, L, unhide HP, unhide HF⟩
        rw [decide_eq_true hlt]
        have c1 := (unhide HF).fr.box.cell (i := 0) rfl
        have hM2 := methSwap c1
        have HSW := hide (swap_any B g n cap L i j1 w2 (unhide HF).fr.row (unhide HL) (by omega) (by omega))
        have HUN := hide ((unhide HU).next hl2 hjm hjI (by omega) hlt (unhide HMIN))
        have HMEM := hide (fun x => swp_mem (L := L) (i := i) (j := j1) (by omega) (by omega) x)
        have HOUT : Hid (∀ k, m ≤ k → (swp L i j1).getD k (0, 0) = L.getD k (0, 0)) := fun k hk => by rw [swp_at (by omega) (by omega), if_neg (by omega), if_neg (by omega)]
        go_wp2_with fail
        refine (unhide HSW).mono ?_
        rintro e w3 ⟨rfl, hr, hk⟩
        have HF2 : Hid (DnAns w w3 B gf g n cap m L0 (swp L i j1)) := ⟨(unhide HF).fr.swap hr hk, fun x => (unhide HMEM x).trans ((unhide HF).mem x), (unhide HF).kept.trans hk, fun k hkm => (unhide HOUT k hkm).trans ((unhide HF).out k hkm)⟩
        clear hr hk HSW hM2 c1
        go_wp2_with fail
        go_roundg (m - j1)
        case measure => have := unhide HG; omega
        case rel => exact ⟨j1, swp L i j1, Nat.le_of_lt hjm, rfl, rfl, HF2, HUN⟩
    · have d3 : ¬ (j2 : Int) < (m : Int) := by omega
      have d3' : decide ((j2 : Int) < (m : Int)) = false := decide_eq_false d3
      have d3n : decide (j2 < m) = false := decide_eq_false c2
      have HMIN : Hid (∀ c, 0 < c → c < m → (c - 1) / 2 = i → ¬ rlt (L.getD c (0, 0)) (L.getD j1 (0, 0))) := fun c h0 hc he => by
        have e : c = j1 := by omega
        rw [e]
        unfold rlt; omega
      have hjm : j1 < m := by omega
      have hjI : ((j1 - 1) / 2) = i := by omega
      have cL := (unhide HF).fr.box.cell (i := 0) rfl
      have hML := methLess cL
      have HL2 := hide (less_any _ L j1 i wr (unhide HF).fr.recs (by omega) (by omega))
      go_wp2_with fail
      refine (unhide HL2).mono ?_
      rintro e w2 ⟨rfl, hb⟩
      replace HF : Hid (DnAns w w2 B gf g n cap m L0 L) := (unhide HF).bd hb
      clear hb HL2 hML cL
      by_cases hlt : rlt (L.getD j1 (0, 0)) (L.getD i (0, 0))
      case neg =>
        have HP := hide ((unhide HU).stop (fun c h0 hc he => by
          have h1 := unhide HMIN c h0 hc he
          unfold rlt at *
          omega))
        rw [decide_eq_false hlt]
        go_wp2_with fail
        go_ret
        exact ⟨_, rfl, L, unhide HP, unhide HF⟩
      rw [decide_eq_true hlt]
      have c1 := (unhide HF).fr.box.cell (i := 0) rfl
      have hM2 := methSwap c1
      have HSW := hide (swap_any B g n cap L i j1 w2 (unhide HF).fr.row (unhide HL) (by omega) (by omega))
      have HUN := hide ((unhide HU).next hl2 hjm hjI (by omega) hlt (unhide HMIN))
      have HMEM := hide (fun x => swp_mem (L := L) (i := i) (j := j1) (by omega) (by omega) x)
      have HOUT : Hid (∀ k, m ≤ k → (swp L i j1).getD k (0, 0) = L.getD k (0, 0)) := fun k hk => by rw [swp_at (by omega) (by omega), if_neg (by omega), if_neg (by omega)]
      go_wp2_with fail
      refine (unhide HSW).mono ?_
      rintro e w3 ⟨rfl, hr, hk⟩
      have HF2 : Hid (DnAns w w3 B gf g n cap m L0 (swp L i j1)) := ⟨(unhide HF).fr.swap hr hk, fun x => (unhide HMEM x).trans ((unhide HF).mem x), (unhide HF).kept.trans hk, fun k hkm => (unhide HOUT k hkm).trans ((unhide HF).out k hkm)⟩
      clear hr hk HSW hM2 c1
      go_wp2_with fail
      go_roundg (m - j1)
      case measure => have := unhide HG; omega
      case rel => exact ⟨j1, swp L i j1, Nat.le_of_lt hjm, rfl, rfl, HF2, HUN⟩

end Go.Proofs.Ytdpcacfgbjllhaa
