/- The contract of leave: who of those that lie there still does at a minute. -/
import Derived.Test.YtogoknldhimgfaaQyA
import Derived.Test.YtogoknldhimgfaaQyN
import Derived.Test.YtogoknldhimgfaaMuCall
namespace Go.Proofs.Ytogoknldhimgfaa
open Go.RowKit Go.Conc

theorem Kept.own {T P : Nat → Prop} {w W V : World} (h : Kept T w W) (k : Kept P W V) (hp : ∀ b, P b → w.heap.size ≤ b) : Kept T w V :=
  ⟨k.os.trans h.os, k.tape.trans h.tape, k.output.trans h.output, Nat.le_trans h.size k.size, fun i hi ht => (k.block i (Nat.lt_of_lt_of_le hi h.size) (fun hb => by have := hp i hb; omega)).trans (h.block i hi ht)⟩
theorem rowB_blk {α : Type} [Inhabited α] {T : TypeId} {n : Nat} {enc : α → Nat → Value} {B : Nat} {w : World} {ao : Option Addr} {m cap : Nat} {L : List α} (h : RowB T n enc B w ao m cap L) (hn : 0 < n) : ∀ b, ao = some ⟨b, 0, none⟩ → B ≤ b := fun b e => by
  rcases h.parts hn with ⟨e2, _⟩ | ⟨g, e2, hg, _⟩
  · rw [e] at e2; cases e2
  · rw [e] at e2; simp only [Option.some.injEq, Addr.mk.injEq, and_true] at e2; omega
/-- The quay's own blocks, all of them. -/
theorem Qy.row_ne {W : World} {gq n K : Nat} {B : Nat → Bool} (h : Qy W gq n K B) : gq < W.heap.size := by have := h.sz; omega
def LvAns (gq n : Nat) (Y : List CallT) (mi : Int) (w : World) (e : Ending) (w' : World) : Prop := ∃ so ms cs, e = .returned (.slice so ms cs) ∧ RowB 31 5 eCall w.heap.size w' so ms cs (stayL Y mi) ∧ ms ≤ Y.length ∧ Qy w' gq n 0 (cvL (stayL Y mi)) ∧ Kept (qyT gq n) w w'

set_option maxRecDepth 100000 in
set_option maxHeartbeats 8000000 in
theorem leave_any (gq n Bq : Nat) (ao : Option Addr) (m cap : Nat) (Y : List CallT) (mi : Int) (w : World) (h : Qy w gq n 0 (cvL Y)) (hY : RowB 31 5 eCall Bq w ao m cap Y) (hB : gq + n < Bq) (hm : Y.length ≤ 24) (hn : n ≤ 1001)
    (hnum : ∀ y ∈ Y, 0 ≤ cAt y ∧ 1 ≤ cLg y ∧ cAt y + cLg y ≤ (n : Int)) (ha : Y.Pairwise AptC) :
    Calls Try.prog 61 #[.slice (some ⟨gq, 0, none⟩) n n, .slice ao m cap, .int .i64 mi] w (LvAns gq n Y mi w) := by
  have hml := hY.len (by decide)
  subst hml
  have HY := hide hY
  have HNUM := hide hnum
  have HAP := hide ha
  have hgs := h.sz
  have HN := hide (rowB_nil 31 5 eCall w.heap.size w)
  have HQ0 : Hid (Qy w gq n 0 (cvL (lvL Y mi 0))) := by show Qy _ _ _ _ _; unfold lvL; simpa using h
  have HE0 : Hid (stayL (Y.take 0) mi = []) := by show _ = _; simp
  have HEn : Hid (stayL (Y.take Y.length) mi = stayL Y mi) := by show _ = _; rw [List.take_length]
  have HEm : Hid (cvL (lvL Y mi Y.length) = cvL (stayL Y mi)) := by show _ = _; unfold lvL; rw [List.take_length, List.drop_length, List.append_nil]
  have HYR : Hid (∀ V, Kept (qyT gq n) w V → RCall V (.slice ao Y.length cap) Y) := fun V hV => (hY.kept hV (fun g _ hg _ hx => by have := hx.2; omega)).recs (by decide)
  clear hY hnum ha h
  unfold LvAns
  go_enter Try.func61, Try.ntmps61
  go_wp2
  go_loopg [7, 14] Y.length (fun g sv kv wr => ∃ (k ms cs : Nat) (so : Option Addr), k ≤ Y.length ∧ g = Y.length - k ∧ kv = .int .i64 k ∧ sv = .slice so ms cs ∧ ms ≤ k ∧ Hid (RowB 31 5 eCall w.heap.size wr so ms cs (stayL (Y.take k) mi)) ∧ Hid (Qy wr gq n 0 (cvL (lvL Y mi k))) ∧ Hid (Kept (qyT gq n) w wr))
  case atStart => exact ⟨0, 0, 0, none, Nat.zero_le _, rfl, rfl, rfl, Nat.le_refl _, by rw [unhide HE0]; exact unhide HN, HQ0, Kept.refl _ _⟩
  case round =>
    clear HN HQ0 HE0
    obtain ⟨k, ms, cs, so, hk, rfl, rfl, rfl, hmk, HS, HQ, HK⟩ := hrel
    by_cases hkn : k < Y.length
    · obtain ⟨ao', cap', e', hcp, hmx, hcc⟩ := unhide HYR wr (unhide HK)
      simp only [Value.slice.injEq] at e'
      obtain ⟨rfl, -, rfl⟩ := e'
      unfold maxLen at hmx
      obtain ⟨b, o, x0, x1, x2, x3, x4, rfl, g0, g1, g2, g3, g4, EX⟩ := recCallAt hcc hkn
      have ex : ca Y k = (x0, x1, x2, x3, x4) := unhide EX
      have hx := unhide HNUM (ca Y k) (by rw [show ca Y k = Y[k] from getD_lt hkn]; exact List.getElem_mem hkn)
      have HST := hide (lv_step (Y := Y) (k := k) mi hkn)
      have HSY := hide fun h => lv_stay (Y := Y) (m := mi) (k := k) hkn h
      have HLV := hide fun p q h1 h2 h3 => lv_leave (Y := Y) (m := mi) (k := k) (p := p) (n := q) hkn h1 h2 h3 (unhide HAP)
      have HCV : Hid (∀ j, cvC (ca Y k) j = true → cvL (lvL Y mi k) j = true) := fun j hj => cvL_iff.2 ⟨ca Y k, by unfold lvL; rw [lv_drop hkn]; simp, hj⟩
      rw [ex] at hx HST HSY HLV HCV
      replace hx : 0 ≤ x4 ∧ 1 ≤ x1 ∧ x4 + x1 ≤ (n : Int) := hx
      have hA := Below.alloc1 wr (.cells #[.int .i64 x0, .int .i64 x1, .int .i64 x2, .int .i64 x3, .int .i64 x4] 31)
      have HX := hide (ownV_alloc wr #[.int .i64 x0, .int .i64 x1, .int .i64 x2, .int .i64 x3, .int .i64 x4] 31)
      have HK1 := hide ((unhide HK).trans (kept_of_below hA))
      have HS1 := hide ((unhide HS).below hA)
      have HQ1 := hide ((unhide HQ).step hA)
      have hki : (k : Int) < Y.length := by omega
      have hws := (unhide HK).size
      clear EX ex hA HK HS HQ hcc
      by_cases hto : mi < x3
      · replace HST : Hid (stayL (Y.take (k + 1)) mi = stayL (Y.take k) mi ++ [(x0, x1, x2, x3, x4)]) := by show _ = _; rw [unhide HST]; exact congrArg _ (if_pos hto)
        replace HSY := hide (unhide HSY hto)
        have d1 : decide (mi < x3) = true := decide_eq_true hto
        clear HLV HCV
        obtain ⟨V1, eV⟩ : ∃ V, V = wr.alloc (.cells #[.int .i64 x0, .int .i64 x1, .int .i64 x2, .int .i64 x3, .int .i64 x4] 31) := ⟨_, rfl⟩
        rw [← eV] at HX HK1 HS1 HQ1
        have hA2 := Below.alloc1 V1 (.cells #[.int .i64 x0, .int .i64 x1, .int .i64 x2, .int .i64 x3, .int .i64 x4] 31)
        have HG : Hid (OwnV (V1.alloc (.cells #[.int .i64 x0, .int .i64 x1, .int .i64 x2, .int .i64 x3, .int .i64 x4] 31)) (wr.heap.size + 1) [.int .i64 x0, .int .i64 x1, .int .i64 x2, .int .i64 x3, .int .i64 x4]) := by
          have h := ownV_alloc V1 #[.int .i64 x0, .int .i64 x1, .int .i64 x2, .int .i64 x3, .int .i64 x4] 31
          rw [eV] at h ⊢
          simp only [World.size_alloc] at h
          exact h
        replace HK1 := hide ((unhide HK1).trans (kept_of_below hA2))
        replace HS1 := hide ((unhide HS1).below hA2)
        replace HQ1 := hide ((unhide HQ1).step hA2)
        have hws := (unhide HK1).size
        clear hA2
        subst eV
        go_wp2_with (at_builtin; go_must (refine wpList_appRow tyCall _ rfl _ _ rfl w.heap.size so ms cs (stayL (Y.take k) mi) rfl (unhide HS1) hws (by omega) (wr.heap.size + 1) (x0, x1, x2, x3, x4) 1 rfl (unhide HG) ?_); intro g' cap' w3 hL hK hBg hat; have HL2 := hide hL; have HKK := hide hK; clear hL hK hat)
        go_roundg (Y.length - (k + 1))
        case measure => omega
        case rel =>
          have hbk := rowB_blk (unhide HS1) (by decide)
          refine ⟨k + 1, ms + 1, cap', _, by omega, rfl, by go_num, rfl, by omega, ?_, ?_, (unhide HK1).own (unhide HKK) hbk⟩
          · rw [unhide HST]
            exact unhide HL2
          · rw [unhide HSY]
            exact (unhide HQ1).kept (unhide HKK) (fun b _ hb hx => by have := hbk b hx; omega)
      · replace HST : Hid (stayL (Y.take (k + 1)) mi = stayL (Y.take k) mi) := by show _ = _; rw [unhide HST]; exact (congrArg _ (if_neg hto)).trans (List.append_nil _)
        have d1 : decide (mi < x3) = false := decide_eq_false hto
        obtain ⟨p, rfl⟩ : ∃ p : Nat, x4 = p := ⟨x4.toNat, by omega⟩
        obtain ⟨q, rfl⟩ : ∃ q : Nat, x1 = q := ⟨x1.toNat, by omega⟩
        replace HLV := hide (unhide HLV p q hto rfl rfl)
        replace HCV : Hid (∀ j, j < q → cvL (lvL Y mi k) (p + j) = true) := fun j hj => unhide HCV (p + j) (cvC_iff.2 (by show ((p : Int) ≤ ((p + j : Nat) : Int) ∧ ((p + j : Nat) : Int) < (p : Int) + (q : Int)); omega))
        obtain ⟨e0, ee0⟩ : ∃ e : Nat, e = p + q := ⟨_, rfl⟩
        have q1 : IntKind.i64.wrap ((p : Int) + (q : Int)) = (e0 : Int) := by rw [IntKind.wrap_i64]; omega
        have q2 : (p : Int) + (q : Int) = (e0 : Int) := by omega
        have hpe : (p : Int) ≤ (e0 : Int) := by omega
        have hen : (e0 : Int) ≤ (n : Int) := by omega
        have hpq : p + q ≤ n := by omega
        have HE := hide ee0
        clear ee0 HSY
        generalize hcl : cvL (lvL Y mi k) = B at *
        clear hcl
        rw [← uncB_zero B p] at HQ1
        obtain ⟨gb, egb⟩ : ∃ g, g = wr.heap.size := ⟨_, rfl⟩
        obtain ⟨V1, eV⟩ : ∃ V, V = wr.alloc (.cells #[.int .i64 x0, .int .i64 (q : Int), .int .i64 x2, .int .i64 x3, .int .i64 (p : Int)] 31) := ⟨_, rfl⟩
        go_wp2
        have q3 : e0 - p = q := by have := unhide HE; omega
        rw [q3]
        rw [← eV] at HX HK1 HS1 HQ1 ⊢
        rw [← egb] at HX ⊢
        clear q1 q2 q3 eV egb hpe hen HE g0 g1 g2 g3 g4 HX
        go_loopg [36] q (fun gg iv wv => ∃ j : Nat, j ≤ q ∧ gg = q - j ∧ iv = .int .i64 j ∧ Hid (RowB 31 5 eCall w.heap.size wv so ms cs (stayL (Y.take k) mi)) ∧ Hid (Qy wv gq n 0 (uncB B p j)) ∧ Hid (Kept (qyT gq n) w wv))
        case atStart => exact ⟨0, Nat.zero_le _, rfl, rfl, HS1, HQ1, HK1⟩
        case round =>
          clear HS1 HQ1 HK1
          obtain ⟨j, hj, rfl, rfl, HS, HQ, HK⟩ := hrel
          by_cases hjq : j < q
          · have hji : (j : Int) < q := by omega
            obtain ⟨buf, s, r, hh, ht, -⟩ := (unhide HQ).ch (p + j) (Nat.zero_le _) (by omega)
            obtain ⟨u, rfl⟩ := ht (by unfold uncB; rw [unhide HCV j hjq]; simp)
            have c9 := (unhide HQ).row.cell (qyV_at (i := p + j) (by omega))
            have HQ2 := hide ((unhide HQ).take (i := p + j) (by omega) s (r + 1))
            rw [uncB_next] at HQ2
            have hk9 := (Kept.refl (fun b => b = gq + 1 + (p + j)) wr).setChan rfl 1 #[] false s (r + 1) false
            have HK2 := hide ((unhide HK).setChan (c := gq + 1 + (p + j)) (by constructor <;> omega) 1 #[] false s (r + 1) false)
            have HS2 := hide ((unhide HS).kept hk9 (fun g _ hg _ hx => by have hx : g = gq + 1 + (p + j) := hx; omega))
            clear ht hk9
            go_upto_region 10 with (fail)
            refine wp_inReg ?_
            show InReg _ _ [0, 1] _ _
            refine inReg_pure (v := .chan (some (gq + 1 + (p + j)))) rfl rfl (by simp [go_sem, execOp, Act.eval]) ?_
            refine inReg_recvBuf (z := .int .i64 0) false rfl rfl (by simp [go_sem, execOp, rcase, Act.eval, Act.put]) hh (by simp) ?_
            rw [show (#[u] : Array Value).extract 1 (#[u] : Array Value).size = #[] by simp]
            refine inReg_nil ?_
            clear hh c9
            generalize wr.setChan (gq + 1 + (p + j)) 1 #[] false s (r + 1) false = w5 at *
            simp only [Act.put]
            go_wp2
            go_roundg (q - (j + 1))
            case measure => omega
            case rel => exact ⟨j + 1, by omega, rfl, by go_num, HS2, HQ2, HK2⟩
          · obtain rfl : j = q := by omega
            rw [unhide HLV] at HQ
            go_wp2
            go_roundg (Y.length - (k + 1))
            case measure => omega
            case rel => exact ⟨k + 1, ms, cs, so, by omega, rfl, by go_num, rfl, by omega, by rw [unhide HST]; exact HS, HQ, HK⟩
    · obtain rfl : k = Y.length := by omega
      rw [unhide HEn] at HS
      rw [unhide HEm] at HQ
      go_wp2
      go_ret
      exact ⟨so, ms, cs, rfl, unhide HS, hmk, unhide HQ, unhide HK⟩

end Go.Proofs.Ytogoknldhimgfaa
