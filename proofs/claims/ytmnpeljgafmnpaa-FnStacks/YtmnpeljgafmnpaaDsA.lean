/- Names that are drawn: l11DrawName. Written by wip/mkds.py. No statement about the program stands here. -/
import Derived.Test.YtmnpeljgafmnpaaOwRw
import Derived.Test.YtmnpeljgafmnpaaDrE
import Derived.Deep.DeepMust
namespace Go.Proofs.Ytmnpeljgafmnpaa
open Go.RowKit

theorem wrap8d {x : Int} (h0 : 0 ≤ x) (h1 : x < 256) : IntKind.u8.wrap x = x := by rw [IntKind.wrap_u8']; omega

set_option maxRecDepth 10000 in
set_option maxHeartbeats 6400000 in
theorem l11DrawName_any (cb n : Nat) (v : Value) (w : World) (h : Cur w cb v n) (hn : n ≤ 1048576) :
    Calls Try.prog 61 #[.pointer (some ⟨cb, 0, none⟩)] w fun e w' => ∃ s : ByteArray, e = .returned (.string s) ∧ s.size = 11 ∧ Cur w' cb v n ∧ Kept (fun b => b = cb) w w' := by
  have hcl := h.lt
  have hA := Below.alloc1 w (.cells #[] 5)
  have HC := hide (h.below hA)
  have HK : Hid (Kept (fun b => b = cb ∨ w.heap.size ≤ b) w (w.alloc (.cells #[] 5))) := kept_of_below hA
  have HM : Hid (M8 (w.alloc (.cells #[] 5)) w.heap.size 0 0 []) := m8_lit w [] 0 0 0 rfl (Or.inr rfl) (by unfold maxLen; omega)
  have HB := hide fun W (hW : Cur W cb v n) k h0 h1 => l1Below_any cb n v k W hW hn h0 h1
  clear h hA
  go_enter Try.func61, Try.ntmps61
  go_wp2
  go_loopg [3, 4] 4 (fun gh bv iv wr => ∃ (k g cap : Nat) (X : List Int), k ≤ 4 ∧ gh = 4 - k ∧ iv = .int .i64 k ∧ bv = .slice (some ⟨g, 0, none⟩) k cap ∧ w.heap.size ≤ g ∧ Hid (M8 wr g k cap X) ∧ Hid (Cur wr cb v n) ∧ Hid (Kept (fun b => b = cb ∨ w.heap.size ≤ b) w wr))
  case atStart => exact ⟨0, w.heap.size, 0, [], by omega, rfl, rfl, rfl, Nat.le_refl _, unhide HM, unhide HC, unhide HK⟩
  case round =>
    clear HC HK HM
    obtain ⟨k, g, cap, X, hk4, rfl, rfl, rfl, hg, HM, HC, HK⟩ := hrel
    by_cases hlt : k < 4
    · have hki : (k : Int) < 4 := by omega
      go_wp2_with fail
      refine (unhide HB _ (unhide HC) _ (by omega) (by omega)).mono ?_
      rintro e w1 ⟨x, rfl, hx0, hx1, hc, hk⟩
      have hgl := (unhide HM).lt
      have hM := (unhide HM).kept hk (by omega)
      have hK := (unhide HK).trans (hk.mono (fun _ _ h => Or.inl h))
      have q1 : IntKind.i64.wrap (65 + x) = 65 + x := by rw [IntKind.wrap_i64]; omega
      have q2 : IntKind.u8.wrap (65 + x) = 65 + x := wrap8d (by omega) (by omega)
      have hB := Below.alloc1 w1 (.cells #[.int .u8 (65 + x)] 5)
      have HMa := hide (hM.below hB)
      have HCa := hide (hc.below hB)
      have HKa := hide (hK.trans (kept_of_below hB))
      have hcl2 := hc.lt
      have hgl2 := hM.lt
      have hsz := (unhide HKa).size
      have HGc : Hid ((w1.alloc (.cells #[.int .u8 (65 + x)] 5)).cell? ⟨w1.heap.size, 0, none⟩ = some (.int .u8 (65 + x))) := by show _ = _; simp
      clear HM HC HK hB hM hK hc hk
      simp only [World.size_alloc] at hsz
      go_wp2_with (at_builtin; go_must (refine wpList_app8 _ (by rfl) _ _ rfl g k cap X rfl (unhide HMa) (by omega) w1.heap.size (65 + x) 1 rfl (unhide HGc) ?_); intro g1 cap1 w3 hM hK hat; have HM1 := hide hM; have hg1 : w.heap.size ≤ g1 := (by simp only [World.size_alloc] at hat; omega); have HC1 := hide ((unhide HCa).kept hK (fun b h => by omega)); have HK1 := hide ((unhide HKa).trans (hK.mono (fun b _ h => Or.inr (by omega)))); clear hM hK hat HMa HCa HKa HGc)
      go_roundg (4 - (k + 1))
      case measure => omega
      case rel => exact ⟨k + 1, g1, cap1, _, by omega, rfl, by go_num, rfl, hg1, unhide HM1, unhide HC1, unhide HK1⟩
    · have hki : ¬ (k : Int) < 4 := by omega
      have hk : k = 4 := by omega
      subst hk
      clear hlt hk4 hki
      go_wp2
      go_loopg [3, 5] 6 (fun gh bv iv wr => ∃ (k m g cap : Nat) (X : List Int), m ≤ 10 ∧ k + 4 = m ∧ gh = 6 - k ∧ iv = .int .i64 k ∧ bv = .slice (some ⟨g, 0, none⟩) m cap ∧ w.heap.size ≤ g ∧ Hid (M8 wr g m cap X) ∧ Hid (Cur wr cb v n) ∧ Hid (Kept (fun b => b = cb ∨ w.heap.size ≤ b) w wr))
      case atStart => exact ⟨0, 4, g, cap, X, by omega, rfl, rfl, rfl, rfl, hg, unhide HM, unhide HC, unhide HK⟩
      case round =>
        clear HC HK HM hg
        obtain ⟨j, k, g, cap, X, hm10, hjm, rfl, rfl, rfl, hg, HM, HC, HK⟩ := hrel
        have HJ := hide hjm
        have hj6 : j ≤ 6 := by omega
        by_cases hlt : j < 6
        · have hki : (j : Int) < 6 := by omega
          have hk10 : k < 10 := by omega
          clear hjm
          go_wp2_with fail
          refine (unhide HB _ (unhide HC) _ (by omega) (by omega)).mono ?_
          rintro e w1 ⟨x, rfl, hx0, hx1, hc, hk⟩
          have hgl := (unhide HM).lt
          have hM := (unhide HM).kept hk (by omega)
          have hK := (unhide HK).trans (hk.mono (fun _ _ h => Or.inl h))
          have q1 : IntKind.i64.wrap (48 + x) = 48 + x := by rw [IntKind.wrap_i64]; omega
          have q2 : IntKind.u8.wrap (48 + x) = 48 + x := wrap8d (by omega) (by omega)
          have hB := Below.alloc1 w1 (.cells #[.int .u8 (48 + x)] 5)
          have HMa := hide (hM.below hB)
          have HCa := hide (hc.below hB)
          have HKa := hide (hK.trans (kept_of_below hB))
          have hcl2 := hc.lt
          have hgl2 := hM.lt
          have hsz := (unhide HKa).size
          have HGc : Hid ((w1.alloc (.cells #[.int .u8 (48 + x)] 5)).cell? ⟨w1.heap.size, 0, none⟩ = some (.int .u8 (48 + x))) := by show _ = _; simp
          clear HM HC HK hB hM hK hc hk
          simp only [World.size_alloc] at hsz
          go_wp2_with (at_builtin; go_must (refine wpList_app8 _ (by rfl) _ _ rfl g k cap X rfl (unhide HMa) (by omega) w1.heap.size (48 + x) 1 rfl (unhide HGc) ?_); intro g1 cap1 w3 hM hK hat; have HM1 := hide hM; have hg1 : w.heap.size ≤ g1 := (by simp only [World.size_alloc] at hat; omega); have HC1 := hide ((unhide HCa).kept hK (fun b h => by omega)); have HK1 := hide ((unhide HKa).trans (hK.mono (fun b _ h => Or.inr (by omega)))); clear hM hK hat HMa HCa HKa HGc)
          go_roundg (6 - (j + 1))
          case measure => omega
          case rel => exact ⟨j + 1, k + 1, g1, cap1, _, by omega, by have := unhide HJ; omega, rfl, by go_num, rfl, hg1, unhide HM1, unhide HC1, unhide HK1⟩
        · have hki : ¬ (j : Int) < 6 := by omega
          have hk : k = 10 := by omega
          subst hk
          clear hjm HJ
          have hcv := (unhide HM).text cap
          have hl := (unhide HM).len
          have HS := hide fun V => specCheckDigit_any (strOfNums X) V
          have hcd := cd_bd (strOfNums X)
          generalize cd (strOfNums X) = c at *
          have HSZ : Hid ((strOfNums (X ++ [48 + c])).size = 11) := by show _ = _; rw [strOfNums_size, List.length_append, hl]; rfl
          generalize strOfNums X = S at *
          obtain ⟨c0, c1⟩ := hcd
          clear hl
          go_wp2_with fail
          refine (unhide HS _).mono ?_
          rintro e w1 ⟨rfl, h9⟩
          have h9' := h9.symm
          subst h9'
          clear h9 HS hcv
          have q1 : IntKind.i64.wrap (48 + c) = 48 + c := by rw [IntKind.wrap_i64]; omega
          have q2 : IntKind.u8.wrap (48 + c) = 48 + c := wrap8d (by omega) (by omega)
          have hgl := (unhide HM).lt
          have hcl2 := (unhide HC).lt
          have hB := Below.alloc1 wr (.cells #[.int .u8 (48 + c)] 5)
          have HMa := hide ((unhide HM).below hB)
          have HCa := hide ((unhide HC).below hB)
          have HKa := hide ((unhide HK).trans (kept_of_below hB))
          have HGc : Hid ((wr.alloc (.cells #[.int .u8 (48 + c)] 5)).cell? ⟨wr.heap.size, 0, none⟩ = some (.int .u8 (48 + c))) := by show _ = _; simp
          clear HM HC HK hB
          go_wp2_with (at_builtin; go_must (refine wpList_app8 _ (by rfl) _ _ rfl g 10 cap X rfl (unhide HMa) (by omega) wr.heap.size (48 + c) 1 rfl (unhide HGc) ?_); intro g1 cap1 w3 hM hK hat; have hcv := hM.text cap1; simp only [Nat.reduceAdd] at hcv; have HC1 := hide ((unhide HCa).kept hK (fun b h => by omega)); have HK1 := hide ((unhide HKa).trans (hK.mono (fun b _ h => Or.inr (by omega)))); clear hM hK hat HMa HCa HKa HGc)
          generalize strOfNums (X ++ [48 + c]) = T at *
          go_wp2
          go_ret
          exact ⟨T, rfl, unhide HSZ, unhide HC1, (unhide HK1).mono (fun b hb h => h.resolve_right (by omega))⟩

end Go.Proofs.Ytmnpeljgafmnpaa
