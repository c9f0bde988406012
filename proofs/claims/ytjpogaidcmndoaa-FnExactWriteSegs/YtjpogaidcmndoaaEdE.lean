/- The landed program: needsBare, writeText, writePart, written, SegsOk, WriteSegs. Written by wip/mkede.py. -/
import Derived.Test.YtjpogaidcmndoaaEdD
import Derived.Test.YtjpogaidcmndoaaEdN
import Derived.Test.YtjpogaidcmndoaaEdW
namespace Go.Proofs.Ytjpogaidcmndoaa
open Go.RowKit

theorem BdI.below {B b : Nat} {X : List Int} {w w' : World} (h : BdI B b X w) (hb : Below w.heap.size w w') : BdI B b X w' := by
  have hk : ∀ p, Lib.BuilderAt 83 5 B b p (cy X) w → Lib.BuilderAt 83 5 B b p (cy X) w' := by
    rintro p ⟨hB, v, hbk, hown, hne⟩
    have hlt : b < w.heap.size := by
      rcases Nat.lt_or_ge b w.heap.size with h' | h'
      · exact h'
      · simp [Array.getElem?_eq_none h'] at hbk
    exact ⟨hB, v, (hb.block b hlt).trans hbk, hown.kept (row := none) ⟨hb.os, hb.tape, hb.output, hb.size, fun k hk _ => hb.block k hk⟩ (by
      rcases hown.2 with ⟨rfl, _⟩ | ⟨g, c, cur, rfl, _⟩
      · exact Or.inl rfl
      · exact Or.inr (by simp [Value.ownBlock])), hne⟩
  exact h.imp (hk _) (hk _)
theorem BdI.eq {B b : Nat} {X Y : List Int} {w : World} (h : BdI B b X w) (e : X = Y) : BdI B b Y w := by rw [← e]; exact h

theorem needsBare_any (b : Int) (w : World) : Calls Try.prog 83 #[.int .u8 b] w fun e w' => e = .returned (.bool (mkB b)) ∧ w' = w := by
  by_cases e43 : b = 43
  · subst e43
    go_enter Try.func83, Try.ntmps83
    go_wp2
    go_ret
    exact ⟨rfl, rfl⟩
  by_cases e58 : b = 58
  · subst e58
    go_enter Try.func83, Try.ntmps83
    go_wp2
    go_ret
    exact ⟨rfl, rfl⟩
  by_cases e39 : b = 39
  · subst e39
    go_enter Try.func83, Try.ntmps83
    go_wp2
    go_ret
    exact ⟨rfl, rfl⟩
  by_cases e63 : b = 63
  · subst e63
    go_enter Try.func83, Try.ntmps83
    go_wp2
    go_ret
    exact ⟨rfl, rfl⟩
  have HV : Hid ((mkB b) = false) := by show _ = _; unfold mkB; simp [e43, e58, e39, e63]
  have d43 : (b == 43) = false := by simp [e43]
  have d58 : (b == 58) = false := by simp [e58]
  have d39 : (b == 39) = false := by simp [e39]
  have d63 : (b == 63) = false := by simp [e63]
  go_enter Try.func83, Try.ntmps83
  go_wp2
  go_ret
  first | exact ⟨rfl, rfl⟩ | exact ⟨by rw [unhide HV]; rfl, rfl⟩

set_option maxHeartbeats 1600000 in
theorem writeText_any (B b : Nat) (X : List Int) (t : ByteArray) (w : World) (h : BdI B b X w) (ht : t.size ≤ maxLen) (hl : X.length + (wrT t t.size).length ≤ 1048576) (hBw : B ≤ w.heap.size) :
    Calls Try.prog 79 #[bdP b, .string t] w fun e w' => e = .returned (.tuple #[]) ∧ BdI B b (X ++ wrT t t.size) w' ∧ Below B w w' := by
  have HIX := hide fun p hp => ixY_any t p hp ht
  have HLN : Hid (∀ k, k < t.size → (X ++ wrT t k).length + (esc (byY t k)).length ≤ 1048576) := by
    show ∀ k, _
    intro k hk
    have h9 := rw_in (fun j => esc (byY t j)) (i := k) (n := t.size) hk
    rw [List.length_append]
    unfold wrT at hl ⊢
    try dsimp only at h9
    omega
  have HS : Hid (∀ k, X ++ wrT t (k + 1) = (X ++ wrT t k) ++ esc (byY t k)) := by
    show ∀ k, _
    intro k
    rw [wrT, rw_succ, List.append_assoc]
    rfl
  have HX0 : Hid (BdI B b (X ++ wrT t 0) w) := by show BdI _ _ _ _; exact h.eq (by simp [wrT, rw_])
  have HB0 := hide (Below.refl B w)
  obtain ⟨m, em⟩ : ∃ m : Nat, t.size = m := ⟨_, rfl⟩
  unfold maxLen at ht
  rw [em] at ht HIX HLN ⊢
  clear h hl
  go_enter Try.func79, Try.ntmps79
  go_wp2
  go_loopg [7] m (fun g iv wr => ∃ k : Nat, k ≤ m ∧ g = m - k ∧ iv = .int .i64 k ∧ Hid (BdI B b (X ++ wrT t k) wr) ∧ Hid (Below B w wr))
  case atStart => exact ⟨0, Nat.zero_le _, rfl, rfl, HX0, HB0⟩
  case round =>
    clear HX0 HB0
    obtain ⟨k, hk, rfl, rfl, HX, HB⟩ := hrel
    by_cases hkn : k < m
    case neg =>
      have hki : ¬ (k : Int) < (m : Int) := by omega
      obtain rfl : k = m := by omega
      go_wp2
      go_end0
      exact ⟨rfl, unhide HX, unhide HB⟩
    have hki : (k : Int) < (m : Int) := by omega
    have hix := unhide HIX k hkn
    have hln := unhide HLN k hkn
    have HS1 := hide (unhide HS k)
    obtain ⟨Y, eY⟩ : ∃ z, z = X ++ wrT t k := ⟨_, rfl⟩
    rw [← eY] at hln HX HS1
    generalize byY t k = c at hix hln HS1
    have HQ := hide (needsBare_any c wr)
    have hsz := (unhide HB).size
    clear eY
    cases hmk : mkB c
    case false =>
      have e1 : esc c = [c] := by unfold esc; rw [hmk]; rfl
      rw [e1] at HS1 hln
      rw [hmk] at HQ
      rw [List.length_singleton] at hln
      clear e1 hmk
      go_wp2_with fail
      refine (unhide HQ).mono ?_
      rintro e w1 ⟨rfl, h9⟩
      have h8 := h9.symm
      subst h8
      clear h9
      go_wp2_with fail
      refine (wByte_any B b Y c _ (unhide HX) (by omega) (by omega)).mono ?_
      rintro e w1 ⟨rfl, hx1, hb1, -⟩
      have HX1 := hide (hx1.eq (unhide HS1).symm)
      have HB1 := hide ((unhide HB).trans hb1)
      clear hx1 hb1
      go_wp2
      go_roundg (m - (k + 1))
      case measure => omega
      case rel => exact ⟨k + 1, by omega, rfl, by go_num, HX1, HB1⟩
    case true =>
      have e1 : esc c = [63, c] := by unfold esc; rw [hmk]; rfl
      rw [e1] at HS1 hln
      rw [hmk] at HQ
      have hl2 : ([63, c] : List Int).length = 2 := rfl
      rw [hl2] at hln
      clear e1 hmk hl2
      go_wp2_with fail
      refine (unhide HQ).mono ?_
      rintro e w1 ⟨rfl, h9⟩
      have h8 := h9.symm
      subst h8
      clear h9
      go_wp2_with fail
      refine (wByte_any B b Y 63 _ (unhide HX) (by omega) (by omega)).mono ?_
      rintro e w1 ⟨rfl, hx1, hb1, -⟩
      have hz1 := hb1.size
      have HXA := hide hx1
      have HBA := hide ((unhide HB).trans hb1)
      clear hx1 hb1
      go_wp2_with fail
      refine (wByte_any B b (Y ++ [63]) c _ (unhide HXA) (by rw [List.length_append, List.length_singleton]; omega) (by omega)).mono ?_
      rintro e w2 ⟨rfl, hx1, hb1, -⟩
      have HX1 := hide (hx1.eq (show Y ++ [63] ++ [c] = X ++ wrT t (k + 1) by rw [unhide HS1, List.append_assoc]; rfl))
      have HB1 := hide ((unhide HBA).trans hb1)
      clear hx1 hb1
      go_wp2
      go_roundg (m - (k + 1))
      case measure => omega
      case rel => exact ⟨k + 1, by omega, rfl, by go_num, HX1, HB1⟩

set_option maxHeartbeats 1600000 in
theorem writePart_any (w0 : World) (b : Nat) (X : List Int) (v : Value) (T : List ByteArray) (w : World) (h : SIn w0 v T) (hx : ∀ k, k < T.length → (T.getD k default).size ≤ maxLen) (hw : Below w0.heap.size w0 w) (hbd : BdI w0.heap.size b X w) (hl : X.length + (wrP T T.length).length ≤ 1048576) :
    Calls Try.prog 55 #[bdP b, v] w fun e w' => e = .returned (.tuple #[]) ∧ BdI w0.heap.size b (X ++ wrP T T.length) w' ∧ Below w0.heap.size w0 w' := by
  obtain ⟨ao, cap, rfl, hlc, hm, hc⟩ := h
  unfold maxLen at hm
  have HC := hide hc
  have HX := hide hx
  have HLN : Hid (∀ k, k < T.length → (X ++ wrP T k).length + 1 + (wrT (T.getD k default) (T.getD k default).size).length ≤ 1048576) := by
    show ∀ k, _
    intro k hk
    have h9 := rw_in (fun k => mkK k :: wrT (T.getD k default) (T.getD k default).size) (i := k) (n := T.length) hk
    rw [List.length_append]
    unfold wrP at hl ⊢
    try dsimp only at h9
    rw [List.length_cons] at h9
    omega
  have HS : Hid (∀ k, X ++ wrP T (k + 1) = ((X ++ wrP T k) ++ [mkK k]) ++ wrT (T.getD k default) (T.getD k default).size) := by
    show ∀ k, _
    intro k
    rw [wrP, rw_succ, List.append_assoc, List.append_assoc]
    rfl
  have HX0 : Hid (BdI w0.heap.size b (X ++ wrP T 0) w) := by show BdI _ _ _ _; exact hbd.eq (by simp [wrP, rw_])
  have HB0 := hide hw
  clear hbd hl hw hc hx
  go_enter Try.func55, Try.ntmps55
  go_wp2
  go_loopg [4, 9] T.length (fun g mv iv wr => ∃ k : Nat, k ≤ T.length ∧ g = T.length - k ∧ mv = .int .u8 (mkK k) ∧ iv = .int .i64 k ∧ Hid (BdI w0.heap.size b (X ++ wrP T k) wr) ∧ Hid (Below w0.heap.size w0 wr))
  case atStart => exact ⟨0, Nat.zero_le _, rfl, rfl, rfl, HX0, HB0⟩
  case round =>
    clear HX0 HB0
    obtain ⟨k, hk, rfl, rfl, rfl, HBD, HB⟩ := hrel
    by_cases hkn : k < T.length
    case neg =>
      have hki : ¬ (k : Int) < (T.length : Int) := by omega
      have e : X ++ wrP T k = X ++ wrP T T.length := by rw [show k = T.length by omega]
      have HBD2 := hide ((unhide HBD).eq e)
      clear HBD e
      go_wp2
      go_end0
      exact ⟨rfl, unhide HBD2, unhide HB⟩
    have hki : (k : Int) < (T.length : Int) := by omega
    obtain ⟨bo, of, rfl, hcell⟩ := unhide HC k hkn
    have hsz := unhide HX k hkn
    have hln := unhide HLN k hkn
    have HS1 := hide (unhide HS k)
    obtain ⟨Y, eY⟩ : ∃ z, z = X ++ wrP T k := ⟨_, rfl⟩
    rw [← eY] at hln HBD HS1
    generalize T.getD k default = t at hcell hsz hln HS1
    have g0 := wcell3 hcell (unhide HB)
    have HK : Hid (mkK (k + 1) = 58) := by show _ = _; unfold mkK; rw [if_neg (by omega)]
    obtain ⟨mk, emk⟩ : ∃ z, z = mkK k := ⟨_, rfl⟩
    rw [← emk] at HS1 ⊢
    have hwb := (unhide HB).size
    clear eY emk hcell
    go_wp2_with fail
    refine (wByte_any w0.heap.size b Y mk _ (unhide HBD) (by omega) (by omega)).mono ?_
    rintro e w1 ⟨rfl, hx1, hb1, -⟩
    have hz1 := hb1.size
    have HXA := hide hx1
    have HBA := hide ((unhide HB).trans hb1)
    clear hx1 hb1 g0
    go_wp2_with fail
    refine (writeText_any w0.heap.size b (Y ++ [mk]) t _ (unhide HXA) hsz (by rw [List.length_append, List.length_singleton]; omega) (by omega)).mono ?_
    rintro e w2 ⟨rfl, hx1, hb1⟩
    have HX1 := hide (hx1.eq (unhide HS1).symm)
    have HB1 := hide ((unhide HBA).trans hb1)
    clear hx1 hb1
    go_wp2
    go_roundg (T.length - (k + 1))
    case measure => omega
    case rel => exact ⟨k + 1, by omega, rfl, by rw [unhide HK], by go_num, HX1, HB1⟩

theorem bts_bd (s : ByteArray) : ∀ x, x ∈ bts s → 0 ≤ x ∧ x < 256 := by
  intro x hx
  unfold bts at hx
  obtain ⟨c, _, rfl⟩ := List.mem_map.1 hx
  have := c.toNat_lt
  omega
theorem rw_bdv (f : Nat → List Int) (hf : ∀ i, ∀ x, x ∈ f i → 0 ≤ x ∧ x < 256) (n : Nat) : ∀ x, x ∈ rw_ f n → 0 ≤ x ∧ x < 256 := by
  intro x hx
  unfold rw_ at hx
  obtain ⟨i, _, h⟩ := List.mem_flatMap.1 hx
  exact hf i x h
theorem esc_bd {c : Int} (h : 0 ≤ c ∧ c < 256) : ∀ x, x ∈ esc c → 0 ≤ x ∧ x < 256 := by
  intro x hx
  unfold esc at hx
  cases hm : mkB c <;> rw [hm] at hx <;> simp at hx <;> omega
theorem wrL_bd (L : List SegT) : ∀ x, x ∈ wrL L → 0 ≤ x ∧ x < 256 := by
  refine rw_bdv _ (fun i x hx => ?_) _
  try dsimp only at hx
  unfold wrS at hx
  rw [List.mem_append, List.mem_append] at hx
  rcases hx with (hx | hx) | hx
  · exact bts_bd _ x hx
  · refine rw_bdv _ (fun p x hx => ?_) _ x hx
    try dsimp only at hx
    refine rw_bdv _ (fun k x hx => ?_) _ x hx
    try dsimp only at hx
    rcases List.mem_cons.1 hx with rfl | hx
    · unfold mkK; split <;> omega
    · refine rw_bdv _ (fun j x hx => ?_) _ x hx
      try dsimp only at hx
      exact esc_bd (byY_bd _ _) x hx
  · simp at hx
    omega

set_option maxRecDepth 10000 in
set_option maxHeartbeats 4000000 in
theorem implWritten_any (v : Value) (L : List SegT) (w : World) (h : SgsIn w v L) (hx : TxSg L) (hb : (wrL L).length ≤ 1000000) :
    Calls Try.prog 29 #[v] w fun e w' => e = .returned (.string (Go.strOfNums (wrL L))) ∧ Below w.heap.size w w' := by
  have HI := hide h
  have HX := hide hx
  obtain ⟨ao, cap, rfl, hl, hm, -⟩ := h
  unfold maxLen at hm
  obtain ⟨tot, et⟩ : ∃ n, n = (wrL L).length := ⟨_, rfl⟩
  have HTOT := hide et
  rw [← et] at hb
  clear et hx
  obtain ⟨tx, etx⟩ : ∃ z, z = Go.strOfNums (wrL L) := ⟨_, rfl⟩
  have HTX := hide etx
  rw [← etx]
  clear etx
  have HBD := hide (bdI_new w)
  have HW := hide (Below.alloc1 w (.cells #[.pointer none, .slice none 0 0] 83))
  obtain ⟨b, eb⟩ : ∃ z, z = w.heap.size := ⟨_, rfl⟩
  obtain ⟨W, eW⟩ : ∃ z, z = w.alloc (.cells #[.pointer none, .slice none 0 0] 83) := ⟨_, rfl⟩
  rw [← eW] at HBD HW
  have HB0 : Hid (BdI w.heap.size b [] W) := by show BdI _ _ _ _; rw [eb]; exact unhide HBD
  clear HBD
  go_enter Try.func29, Try.ntmps29
  go_upto_region 2 with (fail)
  rw [← eW, ← eb]
  clear eW eb
  go_wp2
  go_loopg [10] L.length (fun gh iv wr => ∃ i : Nat, i ≤ L.length ∧ gh = L.length - i ∧ iv = .int .i64 i ∧ Hid (BdI w.heap.size b (wrN L i) wr) ∧ Hid (Below w.heap.size w wr))
  case atStart => exact ⟨0, Nat.zero_le _, rfl, rfl, HB0, HW⟩
  case round =>
    clear HB0 HW
    obtain ⟨i, hi, rfl, rfl, HB, HW⟩ := hrel
    have hwb := (unhide HW).size
    by_cases hin : i < L.length
    case neg =>
      have hii : ¬ (i : Int) < (L.length : Int) := by omega
      have e : wrN L i = wrL L := by rw [show i = L.length by omega]; rfl
      have HB2 := hide ((unhide HB).eq e)
      clear HB e
      go_wp2_with fail
      refine (bdString_any w.heap.size b (wrL L) _ (unhide HB2) (wrL_bd L) hwb).mono ?_
      rintro e w1 ⟨rfl, hb1⟩
      have HB1 := hide ((unhide HW).trans hb1)
      clear hb1
      rw [← unhide HTX]
      go_wp2
      go_ret
      exact ⟨rfl, unhide HB1⟩
    have hii : (i : Int) < (L.length : Int) := by omega
    obtain ⟨bo, o, na, nc, n, t, P, rfl, hc0, hc1, hr, EX, EM, hn⟩ := (unhide HI).at hin
    have hxi := unhide HX i hin
    rw [unhide EX] at hxi
    have HXP := hide hxi.2
    have HNX : Hid (wrN L (i + 1) = wrN L i ++ (bts t ++ wrQ P P.length ++ [39])) := by
      show _ = _
      rw [wrN, rw_succ, unhide EX]
      rfl
    have hlen : (wrN L i).length + t.size + (wrQ P P.length).length + 1 ≤ tot := by
      have h9 := rw_in (fun i => wrS (L.getD i default)) (i := i) (n := L.length) hin
      have h8 : wrS (L.getD i default) = bts t ++ wrQ P P.length ++ [39] := by rw [unhide EX]; rfl
      try dsimp only at h9
      rw [h8, List.length_append, List.length_append, bts_len, List.length_singleton] at h9
      have h7 : (wrN L i).length = (rw_ (fun i => wrS (L.getD i default)) i).length := rfl
      have h6 : tot = (rw_ (fun i => wrS (L.getD i default)) L.length).length := unhide HTOT
      omega
    have HSS := hide hr
    have hts := hxi.1
    have g0 := wcell3 hc0 (unhide HW)
    have g1 := wcell3 hc1 (unhide HW)
    have EX2 := EX
    clear hxi hr hc0 hc1 hts EX EX2
    have A5 := Below.alloc1 wr (.cells #[.string t, .slice na n nc] 33)
    have HB5 := hide ((unhide HB).below A5)
    have HW5 := hide (Below.step (unhide HW) A5)
    have HO5 := hide (ownV_alloc wr #[.string t, .slice na n nc] 33)
    have HP5 : Hid ((wr.alloc (.cells #[.string t, .slice na n nc] 33)).heap[wr.heap.size]? = some (.cells #[.string t, .slice na n nc] 33 (0, 0))) := by
      show _ = _
      exact Go.Deep.blk_alloc_new _ _
    clear A5
    go_upto_region 5 with (fail)
    obtain ⟨gx, egx⟩ : ∃ z, z = wr.heap.size := ⟨_, rfl⟩
    obtain ⟨W5, eW5⟩ : ∃ z, z = wr.alloc (.cells #[.string t, .slice na n nc] 33) := ⟨_, rfl⟩
    rw [← eW5] at HB5 HW5 HO5 HP5
    rw [← egx] at HO5 HP5
    rw [← eW5, ← egx]
    have hgb : gx ≠ b := by
      have h1 : b < wr.heap.size := by
        rcases unhide HB with h | h <;> exact h.lt
      omega
    have hzz := (unhide HW5).size
    clear eW5 egx HB HW g0 g1 hwb
    have b0 := (unhide HO5).cell (i := 0) rfl
    have b1 := (unhide HO5).cell (i := 1) rfl
    go_wp2_with fail
    refine (wStr_any w.heap.size b (wrN L i) t _ (unhide HB5) (by omega) (by omega)).mono ?_
    rintro e w1 ⟨rfl, hx1, hb1, ho1⟩
    have hz1 := hb1.size
    have HBA := hide hx1
    have HWA := hide ((unhide HW5).trans hb1)
    have hP := ho1 gx _ _ _ hgb (by decide) (unhide HP5)
    have b1 : w1.cell? ⟨gx, 1, none⟩ = some (.slice na n nc) := by rw [Lib.cell_of_heap hP]; rfl
    clear hx1 hb1 ho1 hP b0 HP5 HO5 HB5 HW5
    obtain ⟨XA, eXA⟩ : ∃ z, z = wrN L i ++ bts t := ⟨_, rfl⟩
    rw [← eXA] at HBA
    have hla : XA.length + (wrQ P P.length).length + 1 ≤ tot := by rw [eXA, List.length_append, bts_len]; omega
    have HNA : Hid (XA ++ wrQ P P.length ++ [39] = wrN L (i + 1)) := by
      show _ = _
      rw [unhide HNX, eXA, List.append_assoc, List.append_assoc, List.append_assoc]
    have HQ0 : Hid (BdI w.heap.size b (XA ++ wrQ P 0) w1) := by show BdI _ _ _ _; exact (unhide HBA).eq (by simp [wrQ, rw_])
    clear HNX hlen eXA HBA
    go_wp2
    clear b1
    go_loopg [20] n (fun gh iv wr => ∃ p : Nat, p ≤ n ∧ gh = n - p ∧ iv = .int .i64 p ∧ Hid (BdI w.heap.size b (XA ++ wrQ P p) wr) ∧ Hid (Below w.heap.size w wr))
    case atStart => exact ⟨0, Nat.zero_le _, rfl, rfl, HQ0, HWA⟩
    case round =>
      clear HQ0 HWA
      obtain ⟨p, hp, rfl, rfl, HB, HW⟩ := hrel
      have hwb := (unhide HW).size
      by_cases hpn : p < n
      case neg =>
        have hpi : ¬ (p : Int) < (n : Int) := by omega
        have hPl := unhide EM
        have hl9 : (XA ++ wrQ P p).length + 1 ≤ tot := by rw [List.length_append, show p = P.length by omega]; omega
        have HNA2 : Hid ((XA ++ wrQ P p) ++ [39] = wrN L (i + 1)) := by show _ = _; rw [show p = P.length by omega]; exact unhide HNA
        clear HNA hla hPl
        go_wp2_with fail
        refine (wByte_any w.heap.size b (XA ++ wrQ P p) 39 _ (unhide HB) (by omega) (by omega)).mono ?_
        rintro e w2 ⟨rfl, hx1, hb1, -⟩
        have HX1 := hide (hx1.eq (unhide HNA2))
        have HB1 := hide ((unhide HW).trans hb1)
        clear hx1 hb1
        go_wp2
        go_roundg (L.length - (i + 1))
        case measure => omega
        case rel => exact ⟨i + 1, by omega, rfl, by go_num, HX1, HB1⟩
      have hpi : (p : Int) < (n : Int) := by omega
      have hpp : p < P.length := by have := unhide EM; omega
      obtain ⟨b2, o2, ta, tc, tn, TT, rfl, hd, hr2, EX2, EM2, htn⟩ := (unhide HSS).at hpp
      have hxp := unhide HXP p hpp
      rw [unhide EX2] at hxp
      have HNQ : Hid (XA ++ wrQ P (p + 1) = (XA ++ wrQ P p) ++ wrP TT TT.length) := by show _ = _; rw [wrQ, rw_succ, unhide EX2, List.append_assoc]; rfl
      have hlb : (XA ++ wrQ P p).length + (wrP TT TT.length).length + 1 ≤ tot := by
        have h9 := rw_in (fun p => wrP (P.getD p default) (P.getD p default).length) (i := p) (n := P.length) hpp
        try dsimp only at h9
        rw [unhide EX2] at h9
        have h7 : (XA ++ wrQ P p).length = XA.length + (rw_ (fun p => wrP (P.getD p default) (P.getD p default).length) p).length := by rw [List.length_append]; rfl
        have h6 : (wrQ P P.length).length = (rw_ (fun p => wrP (P.getD p default) (P.getD p default).length) P.length).length := rfl
        omega
      have g2 := wcell3 hd (unhide HW)
      have HWP := hide fun V (hV : Below w.heap.size w V) (hB : BdI w.heap.size b (XA ++ wrQ P p) V) => writePart_any w b (XA ++ wrQ P p) _ TT V hr2 hxp hV hB (by omega)
      clear hd hr2 hxp EX2
      go_wp2_with fail
      refine (unhide HWP _ (unhide HW) (unhide HB)).mono ?_
      rintro e w2 ⟨rfl, hx1, hb1⟩
      have HX1 := hide (hx1.eq (unhide HNQ).symm)
      have HB1 := hide hb1
      clear hx1 hb1 g2 HWP
      go_wp2
      go_roundg (n - (p + 1))
      case measure => omega
      case rel => exact ⟨p + 1, by omega, rfl, by go_num, HX1, HB1⟩

set_option maxHeartbeats 1600000 in
theorem implSegsOk_any (v : Value) (L : List SegT) (w : World) (h : SgsIn w v L) (hx : TxSg L) :
    Calls Try.prog 12 #[v] w fun e w' => e = .returned (.bool (sgB L)) ∧ Below w.heap.size w w' := by
  have HCN := hide (conSg_any v L w h hx)
  have HWR := hide fun V (hV : Below w.heap.size w V) hb => implWritten_any v L V (h.below hV) hx hb
  obtain ⟨ao, cap, rfl, hl, hm, -⟩ := h
  unfold maxLen at hm
  obtain ⟨V, eV⟩ : ∃ z, z = sgB L := ⟨_, rfl⟩
  have E0 : sgB L = (decide (L.length ≤ 60) && decide (∀ i, i < L.length → sgC (L.getD i default) = true) && decide ((wrL L).length ≤ 2000)) := rfl
  have F1 : Hid (¬ L.length ≤ 60 → V = false) := by show _ → _; intro h; rw [eV, E0, decide_eq_false h]; rfl
  have F2 : Hid ((∃ i, i < L.length ∧ sgC (L.getD i default) = false) → V = false) := by
    show _ → _
    rintro ⟨i, hi, h⟩
    rw [eV, E0, decide_eq_false (fun h2 : ∀ i, i < L.length → sgC (L.getD i default) = true => by have := h2 i hi; rw [h] at this; cases this), Bool.and_false]
    rfl
  have F3 : Hid (L.length ≤ 60 → (∀ i, i < L.length → sgC (L.getD i default) = true) → V = decide ((wrL L).length ≤ 2000)) := by show _ → _; intro h1 h2; rw [eV, E0, decide_eq_true h1, decide_eq_true h2]; rfl
  rw [← eV]
  clear eV E0 hx
  by_cases h60 : L.length ≤ 60
  case neg =>
    have hv := unhide F1 h60
    have d : decide ((L.length : Int) ≤ 60) = false := decide_eq_false (by omega)
    clear F1 F2 F3 HCN HWR
    go_enter Try.func12, Try.ntmps12
    go_wp2_with fail
    go_ret
    first | exact ⟨rfl, Below.refl _ _⟩ | exact ⟨by rw [hv]; rfl, Below.refl _ _⟩
  have d : decide ((L.length : Int) ≤ 60) = true := decide_eq_true (by omega)
  have F4 := hide (unhide F3 h60)
  clear F1 F3
  go_enter Try.func12, Try.ntmps12
  go_wp2_with fail
  refine (unhide HCN).mono ?_
  rintro e w1 ⟨⟨c, rfl, hr⟩, hb⟩
  have HW1 := hide hb
  clear hb HCN
  rcases hr with ⟨rfl, h3⟩ | ⟨rfl, h3⟩
  · have hv := unhide F4 h3
    have hb6 := wr_small h60 h3
    have HV := hide hv
    have HQ := hide (unhide HWR _ (unhide HW1) hb6)
    have hsz : (Go.strOfNums (wrL L)).size = (wrL L).length := by unfold Go.strOfNums; show Array.size _ = _; simp
    generalize Go.strOfNums (wrL L) = tx at hsz HQ
    generalize (wrL L).length = tot at *
    clear h3 F2 F4 hv HWR
    go_wp2_with fail
    refine (unhide HQ).mono ?_
    rintro e w2 ⟨rfl, hb⟩
    have HW2 := hide (Below.step (unhide HW1) hb)
    clear hb HQ HW1
    have HVI : Hid (decide ((tot : Int) ≤ 2000) = V) := by
      show _ = _
      rw [unhide HV]
      by_cases h2 : tot ≤ 2000
      · rw [decide_eq_true h2, decide_eq_true (by omega)]
      · rw [decide_eq_false h2, decide_eq_false (by omega)]
    clear HV
    go_wp2
    go_ret
    exact ⟨ret_bool (unhide HVI), unhide HW2⟩
  · have hv := unhide F2 h3
    clear h3 F2 F4 HWR
    go_wp2
    go_ret
    first | exact ⟨rfl, unhide HW1⟩ | exact ⟨by rw [hv]; rfl, unhide HW1⟩

set_option maxHeartbeats 1600000 in
theorem implWriteSegs_any (v : Value) (L : List SegT) (w : World) (h : SgsIn w v L) (hx : TxSg L) :
    Calls Try.prog 10 #[v] w fun e w' => e = .returned (.tuple #[.string (wgV L).1, .bool (wgV L).2]) ∧ Below w.heap.size w w' := by
  have HI := hide h
  have HX := hide hx
  have HSO := hide (implSegsOk_any v L w h hx)
  clear h hx
  cases hs : sgB L
  case false =>
    have HV : Hid (wgV L = (⟨#[]⟩, false)) := by show _ = _; unfold wgV; rw [hs]; rfl
    rw [hs] at HSO
    go_enter Try.func10, Try.ntmps10
    go_wp2_with fail
    refine (unhide HSO).mono ?_
    rintro e w1 ⟨rfl, hb⟩
    have HW := hide hb
    clear hb
    go_wp2
    refine bodyPost_ret (v := .tuple #[.string ⟨#[]⟩, .bool false]) (by simp [results, Try.results10, go_sem]) rfl ⟨by rw [unhide HV], unhide HW⟩
  case true =>
    have HV : Hid (wgV L = (Go.strOfNums (wrL L), true)) := by show _ = _; unfold wgV; rw [hs]; rfl
    have hbd : (wrL L).length ≤ 1000000 := by
      unfold sgB at hs
      simp only [Bool.and_eq_true, decide_eq_true_eq] at hs
      omega
    have HWR := hide fun V (hV : Below w.heap.size w V) => implWritten_any v L V ((unhide HI).below hV) (unhide HX) hbd
    rw [hs] at HSO
    go_enter Try.func10, Try.ntmps10
    go_wp2_with fail
    refine (unhide HSO).mono ?_
    rintro e w1 ⟨rfl, hb⟩
    have HW := hide hb
    clear hb
    have HQ := hide (unhide HWR _ (unhide HW))
    obtain ⟨tx, etx⟩ : ∃ z, z = Go.strOfNums (wrL L) := ⟨_, rfl⟩
    rw [← etx] at HV HQ
    clear etx HWR HSO
    go_wp2_with fail
    refine (unhide HQ).mono ?_
    rintro e w2 ⟨rfl, hb⟩
    replace HW := hide (Below.step (unhide HW) hb)
    clear hb HQ
    go_wp2
    refine bodyPost_ret (v := .tuple #[.string tx, .bool true]) (by simp [results, Try.results10, go_sem]) rfl ⟨by rw [unhide HV], unhide HW⟩

end Go.Proofs.Ytjpogaidcmndoaa
