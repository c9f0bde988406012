/- The program's pileUnder, letOut and canGo. Written by wip/mkybh.py. -/
import Derived.Test.YtdiifkeebgdfkaaYbG
import Derived.Test.YtdiifkeebgdfkaaYbF
namespace Go.Proofs.Ytdiifkeebgdfkaa
open Go.RowKit

def tpV (P : List (List Int)) (x : Int) : Int := match topAt P x with | some s => (s : Int) | none => -1
theorem tpV_some {P : List (List Int)} {x : Int} {s : Nat} (h : topAt P x = some s) : tpV P x = (s : Int) := by rw [tpV, h]
theorem tpV_none {P : List (List Int)} {x : Int} (h : topAt P x = none) : tpV P x = -1 := by rw [tpV, h]

set_option maxRecDepth 10000 in
set_option maxHeartbeats 3200000 in
theorem pileUnder_any (H x : Int) (g cap : Nat) (Z : List (Option Addr × Nat)) (P : List (List Int)) (w : World) (h : Gnd w g Z P) (hc1 : P.length ≤ cap) (hc2 : cap ≤ 1048576) :
    Calls Try.prog 115 #[gndV H g P.length cap, .int .i64 x] w fun e w' => e = .returned (.int .i64 (tpV P x)) ∧ Below w.heap.size w w' := by
  obtain ⟨A, eA⟩ : ∃ A, A = tpV P x := ⟨_, rfl⟩
  rw [← eA]
  have EA := hide eA
  clear eA
  have HG := hide h
  clear h
  unfold gndV
  go_enter Try.func115, Try.ntmps115
  go_upto_region 1 with (fail)
  obtain ⟨W, eW⟩ : ∃ W, W = w.alloc (.cells #[.int .i64 H, .slice (some ⟨g, 0, none⟩) P.length cap] 90) := ⟨_, rfl⟩
  have HW : Hid (Below w.heap.size w W) := by rw [eW]; exact Below.alloc1 _ _
  have HB : Hid (OwnV W w.heap.size [.int .i64 H, .slice (some ⟨g, 0, none⟩) P.length cap]) := by rw [eW]; exact ownV_alloc _ _ _
  rw [← eW]
  clear eW
  have b1 := (unhide HB).cell (i := 1) rfl
  go_wp2
  clear b1 HB
  go_loopg [10] P.length (fun gh iv wr => ∃ k : Nat, k ≤ P.length ∧ gh = P.length - k ∧ iv = .int .i64 k ∧ Hid (∀ s, s < k → (P.getD s []).head? ≠ some x) ∧ Hid (Below w.heap.size w wr))
  case atStart => exact ⟨0, Nat.zero_le _, rfl, rfl, fun s hs => absurd hs (Nat.not_lt_zero s), HW⟩
  case round =>
    clear HW
    obtain ⟨k, hk, rfl, rfl, HX, HW⟩ := hrel
    by_cases hkn : k < P.length
    · have hki : (k : Int) < P.length := by omega
      have HG2 := hide ((unhide HG).below (unhide HW))
      obtain ⟨p0, p1⟩ := (unhide HG2).at hkn
      have HL := hide ((unhide HG2).lnk k hkn)
      have HSM : Hid ((P.getD k []).head? = some x → A = (k : Int)) := fun hm => (unhide EA).trans (tpV_some (topAt_some hkn (unhide HX) hm))
      have HNX : Hid ((P.getD k []).head? ≠ some x → ∀ s, s < k + 1 → (P.getD s []).head? ≠ some x) := fun hm s hs => by
        by_cases e : s = k
        · subst e; exact hm
        · exact unhide HX s (by omega)
      obtain ⟨row, erow⟩ : ∃ row, P.getD k [] = row := ⟨_, rfl⟩
      rw [erow] at p1 HL HSM HNX
      clear erow
      obtain ⟨p, ep⟩ : ∃ p, (Z.getD k default).1 = p := ⟨_, rfl⟩
      rw [ep] at p0 HL
      clear ep HG2
      go_upto_region 4 with (fail)
      obtain ⟨W, eW⟩ : ∃ W, W = wr.alloc (.cells #[.pointer p, .int .i64 (row.length : Int)] 126) := ⟨_, rfl⟩
      have hb : Below wr.heap.size wr W := by rw [eW]; exact Below.alloc1 _ _
      have HB : Hid (OwnV W wr.heap.size [.pointer p, .int .i64 (row.length : Int)]) := by rw [eW]; exact ownV_alloc _ _ _
      rw [← eW]
      clear eW p0 p1
      replace HW := hide (Below.step (unhide HW) hb)
      replace HL := hide ((unhide HL).below hb)
      clear hb
      have b0 := (unhide HB).cell (i := 0) rfl
      cases row with
      | nil =>
        have ep : p = none := unhide HL
        subst ep
        have HN2 := hide (unhide HNX (by simp))
        go_wp2
        go_roundg (P.length - (k + 1))
        case measure => omega
        case rel => exact ⟨k + 1, by omega, rfl, by go_num, HN2, HW⟩
      | cons y ys =>
        obtain ⟨g2, q2, rfl, hoy, hly⟩ := unhide HL
        have y0 := hoy.cell (i := 0) rfl
        clear hoy hly HL
        by_cases hyx : y = x
        · have HEV := hide (unhide HSM (by rw [hyx]; rfl))
          subst hyx
          go_wp2
          go_ret
          exact ⟨by rw [unhide HEV]; rfl, unhide HW⟩
        · have exy : (y == x) = false := by simpa using hyx
          have HN2 := hide (unhide HNX (by simpa using hyx))
          go_wp2
          go_roundg (P.length - (k + 1))
          case measure => omega
          case rel => exact ⟨k + 1, by omega, rfl, by go_num, HN2, HW⟩
    · have hkk : k = P.length := by omega
      subst hkk
      have HEV := hide ((unhide EA).trans (tpV_none (topAt_none (unhide HX))))
      go_wp2
      go_ret
      exact ⟨by rw [unhide HEV]; rfl, unhide HW⟩

theorem head_tail {r : List Int} {x : Int} (h : r.head? = some x) : r = x :: r.tail := by
  cases r with
  | nil => simp at h
  | cons y ys =>
    have : y = x := by simpa using h
    rw [this]; rfl
theorem free_some {n : Nat} {P : List (List Int)} {k s : Nat} (h : topAt P (k : Int) = some s) : freeP (n + 1) P k = freeP n (P.set s (P.getD s []).tail) (k + 1) := by simp only [freeP, h]
theorem free_none {n : Nat} {P : List (List Int)} {k : Nat} (h : topAt P (k : Int) = none) : freeP n P k = (P, k) := by
  cases n with
  | zero => rfl
  | succ n => simp only [freeP, h]

set_option maxRecDepth 10000 in
set_option maxHeartbeats 3200000 in
theorem letOut_any (H : Int) (g L k : Nat) (Z : List (Option Addr × Nat)) (P : List (List Int)) (w : World) (h : Gnd w g Z P) (hn : P.length ≤ 12) (hl : ∀ s, s < P.length → (P.getD s []).length ≤ 6) (hkL : k ≤ L) (hL : L ≤ 7) :
    Calls Try.prog 94 #[gndV H g P.length P.length, .int .i64 (k : Int), .int .i64 (L : Int)] w fun e w' => e = .returned (.int .i64 ((freeP (L - k) P k).2 : Int)) ∧ ∃ Z', Gnd w' g Z' (freeP (L - k) P k).1 ∧ Kept (fun b => b = g) w w' := by
  obtain ⟨F, eF⟩ : ∃ F, F = freeP (L - k) P k := ⟨_, rfl⟩
  rw [← eF]
  have EF := hide eF
  clear eF
  have HG := hide h
  have HL := hide hl
  have hgl := h.top.lt
  clear h hl
  obtain ⟨n, en⟩ : ∃ n, n = P.length := ⟨_, rfl⟩
  have EN := hide en
  rw [← en] at hn ⊢
  unfold gndV
  clear en
  go_enter Try.func94, Try.ntmps94
  go_upto_region 1 with (fail)
  obtain ⟨g0, eg0⟩ : ∃ z, z = w.heap.size := ⟨_, rfl⟩
  have hg0 : g < g0 := by rw [eg0]; exact hgl
  obtain ⟨W, eW⟩ : ∃ W, W = w.alloc (.cells #[.int .i64 H, .slice (some ⟨g, 0, none⟩) n n] 90) := ⟨_, rfl⟩
  have hb : Below w.heap.size w W := by rw [eW]; exact Below.alloc1 _ _
  have HB : Hid (OwnV W g0 [.int .i64 H, .slice (some ⟨g, 0, none⟩) n n]) := by rw [eW, eg0]; exact ownV_alloc _ _ _
  rw [← eW, ← eg0]
  clear eW eg0 hgl
  have HK : Hid (Kept (fun b => b = g) w W) := kept_of_below hb
  replace HG := hide ((unhide HG).below hb)
  clear hb
  go_loopg [1] (L - k) (fun gh nv wr => ∃ (q : Nat) (P' : List (List Int)) (Z' : List (Option Addr × Nat)), gh = L - q ∧ q ≤ L ∧ nv = .int .i64 (q : Int) ∧ Hid (F = freeP (L - q) P' q) ∧ Hid (P'.length = n ∧ ∀ s, s < P'.length → (P'.getD s []).length ≤ 6) ∧ Hid (Gnd wr g Z' P') ∧ Hid (OwnV wr g0 [.int .i64 H, .slice (some ⟨g, 0, none⟩) n n]) ∧ Hid (Kept (fun b => b = g) w wr))
  case atStart => exact ⟨k, P, Z, rfl, hkL, rfl, EF, ⟨(unhide EN).symm, unhide HL⟩, HG, HB, HK⟩
  case round =>
    clear HG HB HK
    obtain ⟨q, P', Z', rfl, hq, rfl, HF, HP, HG, HB, HK⟩ := hrel
    by_cases hqL : q < L
    · have hqi : (q : Int) < (L : Int) := by omega
      have HPU := hide (pileUnder_any H (q : Int) g n Z' P' wr (unhide HG) (Nat.le_of_eq (unhide HP).1) (by omega))
      rw [(unhide HP).1] at HPU
      unfold gndV at HPU
      have b0 := (unhide HB).cell (i := 0) rfl
      have b1 := (unhide HB).cell (i := 1) rfl
      cases ht : topAt P' (q : Int) with
      | none =>
        rw [tpV_none ht] at HPU
        have HE := hide ((unhide HF).trans (free_none ht))
        clear ht
        go_wp2_with fail
        refine (unhide HPU).mono ?_
        rintro e w1 ⟨rfl, hb⟩
        replace HG := hide ((unhide HG).below hb)
        replace HK := hide ((unhide HK).trans (kept_of_below hb))
        clear hb b0 b1
        go_wp2
        go_ret
        exact ⟨by rw [unhide HE]; rfl, Z', by rw [unhide HE]; exact unhide HG, unhide HK⟩
      | some s =>
        rw [tpV_some ht] at HPU
        obtain ⟨hs, hhd⟩ := topAt_at ht
        have hrow := head_tail hhd
        have h6 := (unhide HP).2 s hs
        rw [hrow, List.length_cons] at h6
        have HE : Hid (F = freeP (L - (q + 1)) (P'.set s (P'.getD s []).tail) (q + 1)) := by
          have h1 := unhide HF
          rw [show L - q = (L - (q + 1)) + 1 by omega, free_some ht] at h1
          exact h1
        have HP2 : Hid ((P'.set s (P'.getD s []).tail).length = n ∧ ∀ r, r < (P'.set s (P'.getD s []).tail).length → ((P'.set s (P'.getD s []).tail).getD r []).length ≤ 6) := by
          refine ⟨by rw [List.length_set]; exact (unhide HP).1, fun r hr => ?_⟩
          rw [List.length_set] at hr
          by_cases e : r = s
          · subst e; rw [rowset_self hr]; omega
          · rw [rowset_ne e]; exact (unhide HP).2 r hr
        have hsn : s < n := by have := (unhide HP).1; omega
        have HLF := hide fun W (hG : Gnd W g Z' P') => liftT_any H g n Z' P' (q : Int) (P'.getD s []).tail s W hG hs (Nat.le_of_eq (unhide HP).1) (by omega) hrow (by omega)
        rw [(unhide HP).1] at HLF
        unfold gndV at HLF
        clear ht hhd hrow h6
        go_wp2_with fail
        refine (unhide HPU).mono ?_
        rintro e w1 ⟨rfl, hb⟩
        replace HG := hide ((unhide HG).below hb)
        replace HB := hide ((unhide HB).step hb)
        replace HK := hide ((unhide HK).trans (kept_of_below hb))
        clear hb b0 b1
        have b0 := (unhide HB).cell (i := 0) rfl
        have b1 := (unhide HB).cell (i := 1) rfl
        go_wp2_with fail
        refine (unhide HLF _ (unhide HG)).mono ?_
        rintro e w2 ⟨rfl, Z2, hG2, hk⟩
        replace HB := hide ((unhide HB).kept hk (by omega))
        replace HK := hide ((unhide HK).trans hk)
        have HG2 := hide hG2
        clear hk hG2 b0 b1 HG
        go_wp2
        go_roundg (L - (q + 1))
        case measure => omega
        case rel => exact ⟨q + 1, _, Z2, rfl, by omega, by go_num, HE, HP2, HG2, HB, HK⟩
    · have hqq : q = L := by omega
      subst hqq
      have HE : Hid (F = (P', q)) := by have h1 := unhide HF; rw [Nat.sub_self] at h1; exact h1
      go_wp2
      go_ret
      exact ⟨by rw [unhide HE]; rfl, Z', by rw [unhide HE]; exact unhide HG, unhide HK⟩

theorem kept_belowAt {T : Nat → Prop} {a w w' : World} {B : Nat} (h : Kept T a w) (hb : Below B w w') (hB : a.heap.size ≤ B) : Kept T a w' :=
  ⟨hb.os.trans h.os, hb.tape.trans h.tape, hb.output.trans h.output, Nat.le_trans h.size hb.size, fun k hk ht => (hb.block k (by omega)).trans (h.block k hk ht)⟩

theorem blk_le {P : List (List Int)} (hn : P.length ≤ 12) (hl : ∀ s, s < P.length → (P.getD s []).length ≤ 6) : blkP P ≤ 72 := by
  have : ∀ k, k ≤ P.length → blkP (P.take k) ≤ 6 * k := fun k => by
    induction k with
    | zero => intro _; simp [blkP]
    | succ k ih =>
      intro hk
      have h1 := blkP_take (P := P) (k := k) (by omega)
      have h2 := ih (by omega)
      have h3 := inW_le (P.getD k [])
      have h4 := hl k (by omega)
      omega
  have h1 := this P.length (Nat.le_refl _)
  rw [List.take_length] at h1
  omega

set_option maxRecDepth 10000 in
set_option maxHeartbeats 16000000 in
theorem canGo_any (H : Int) (L : Nat) (hH : H ≤ 6) (hL : L ≤ 7) : ∀ (m g k : Nat) (Z : List (Option Addr × Nat)) (P : List (List Int)) (w : World), Gnd w g Z P → P.length ≤ 12 → (∀ s, s < P.length → ((P.getD s []).length : Int) ≤ H) → k ≤ L → m ≤ 8 →
    Calls Try.prog 62 #[gndV H g P.length P.length, .int .i64 (k : Int), .int .i64 (L : Int), .int .i64 (m : Int)] w fun e w' => e = .returned (.bool (canP H L m P k)) ∧ Kept (fun b => b = g) w w' := by
  intro m
  induction m with
  | zero =>
    intro g k Z P w h hn hl hkL hm
    obtain ⟨A, eA⟩ : ∃ A, A = canP H L 0 P k := ⟨_, rfl⟩
    rw [← eA]
    have EA := hide eA
    clear eA
    have HCL := hide (can_less (H := H) (L := L) (m := 0) (P := P) (k := k))
    have HG := hide h
    have hgl := h.top.lt
    have HLO := hide fun W (hG : Gnd W g Z P) => letOut_any H g L k Z P W hG hn (fun s hs => by have := hl s hs; omega) hkL hL
    have hFl := (freeP_len (n := L - k) (P := P) (k := k))
    have HLW := hide (freeP_low (n := L - k) (k := k) hl)
    have HCZ := hide (can_zero (H := H) (L := L) (m := 0) (P := P) (k := k))
    obtain ⟨n, en⟩ : ∃ n, n = P.length := ⟨_, rfl⟩
    rw [← en] at hn hFl HLO HLW ⊢
    clear h hl en
    obtain ⟨⟨F1, k1⟩, eF⟩ : ∃ F, F = freeP (L - k) P k := ⟨_, rfl⟩
    rw [← eF] at HLO hFl HLW HCZ HCL
    dsimp only at HLO hFl HLW HCZ HCL
    obtain ⟨hF1, hF2, hF3⟩ := hFl
    rw [← hF1] at HLW
    have hk1 : k1 ≤ L := by omega
    have hk1i : (k1 : Int) ≤ 7 := by omega
    have HFL := hide hF1
    have HB6 : Hid (∀ s, s < F1.length → (F1.getD s []).length ≤ 6) := fun s hs => by have h1 := unhide HLW s (by omega); omega
    have hBl := blk_le (P := F1) (by omega) (unhide HB6)
    have HBK := hide fun Z1 W (hG : Gnd W g Z1 F1) => blockers_any H g n Z1 F1 W hG (by omega) (by omega) (by unfold maxLen; omega) (unhide HB6)
    rw [hF1] at HBK
    obtain ⟨B, eB⟩ : ∃ B, B = blkP F1 := ⟨_, rfl⟩
    rw [← eB] at HBK HCZ HCL hBl
    unfold gndV at HLO HBK ⊢
    clear eF eB hF1 hF2 hF3
    go_enter Try.func62, Try.ntmps62
    go_upto_region 1 with (fail)
    obtain ⟨g0, eg0⟩ : ∃ z, z = w.heap.size := ⟨_, rfl⟩
    have hg0 : g < g0 := by rw [eg0]; exact hgl
    have hwg0 : w.heap.size ≤ g0 := by omega
    obtain ⟨W, eW⟩ : ∃ W, W = w.alloc (.cells #[.int .i64 H, .slice (some ⟨g, 0, none⟩) n n] 90) := ⟨_, rfl⟩
    have hb : Below w.heap.size w W := by rw [eW]; exact Below.alloc1 _ _
    have HB : Hid (OwnV W g0 [.int .i64 H, .slice (some ⟨g, 0, none⟩) n n]) := by rw [eW, eg0]; exact ownV_alloc _ _ _
    rw [← eW, ← eg0]
    clear eW eg0 hgl
    have HK : Hid (Kept (fun b => b = g) w W) := kept_of_below hb
    replace HG := hide ((unhide HG).below hb)
    clear hb
    have b0 := (unhide HB).cell (i := 0) rfl
    have b1 := (unhide HB).cell (i := 1) rfl
    go_wp2_with fail
    refine (unhide HLO _ (unhide HG)).mono ?_
    rintro e w1 ⟨rfl, Z1, hG, hk⟩
    replace HB := hide ((unhide HB).kept hk (by omega))
    replace HK := hide ((unhide HK).trans hk)
    clear HG
    have HG := hide hG
    clear hk hG b0 b1 HLO
    have b0 := (unhide HB).cell (i := 0) rfl
    have b1 := (unhide HB).cell (i := 1) rfl
    go_wp2_with fail
    refine (unhide HBK _ _ (unhide HG)).mono ?_
    rintro e w2 ⟨rfl, hb⟩
    replace HG := hide ((unhide HG).below hb)
    replace HB := hide ((unhide HB).step hb)
    replace HK := hide ((unhide HK).trans (kept_of_below hb))
    clear hb b0 b1 HBK
    have hg0l := (unhide HB).lt
    by_cases hB : B = 0
    · have HEV := hide ((unhide EA).trans (unhide HCZ hB))
      have eB0 : ((B : Int) == 0) = true := by simp [hB]
      have HBZ := hide hB
      clear hB
      go_wp2
      go_ret
      exact ⟨by rw [unhide HEV]; rfl, unhide HK⟩
    · have HEV := hide ((unhide EA).trans (unhide HCL (by omega)))
      have eB0 : ((B : Int) == 0) = false := by simp; omega
      have eBm : decide ((0 : Int) < (B : Int)) = true := by simp; omega
      have eBm2 : (0 : Int) < (B : Int) := by omega
      go_wp2
      go_ret
      exact ⟨by rw [unhide HEV]; rfl, unhide HK⟩
  | succ m ih =>
    intro g k Z P w h hn hl hkL hm
    obtain ⟨A, eA⟩ : ∃ A, A = canP H L (m + 1) P k := ⟨_, rfl⟩
    rw [← eA]
    have EA := hide eA
    clear eA
    have IH := hide ih
    clear ih
    have HCL := hide (can_less (H := H) (L := L) (m := m + 1) (P := P) (k := k))
    have HCA := hide (can_any (H := H) (L := L) (m := m) (P := P) (k := k))
    have HG := hide h
    have hgl := h.top.lt
    have HLO := hide fun W (hG : Gnd W g Z P) => letOut_any H g L k Z P W hG hn (fun s hs => by have := hl s hs; omega) hkL hL
    have hFl := (freeP_len (n := L - k) (P := P) (k := k))
    have HLW := hide (freeP_low (n := L - k) (k := k) hl)
    have HCZ := hide (can_zero (H := H) (L := L) (m := m + 1) (P := P) (k := k))
    obtain ⟨n, en⟩ : ∃ n, n = P.length := ⟨_, rfl⟩
    rw [← en] at hn hFl HLO HLW ⊢
    clear h hl en
    obtain ⟨⟨F1, k1⟩, eF⟩ : ∃ F, F = freeP (L - k) P k := ⟨_, rfl⟩
    rw [← eF] at HLO hFl HLW HCZ HCL HCA
    dsimp only at HLO hFl HLW HCZ HCL HCA
    obtain ⟨hF1, hF2, hF3⟩ := hFl
    rw [← hF1] at HLW
    have hk1 : k1 ≤ L := by omega
    have hk1i : (k1 : Int) ≤ 7 := by omega
    have HFL := hide hF1
    have HB6 : Hid (∀ s, s < F1.length → (F1.getD s []).length ≤ 6) := fun s hs => by have h1 := unhide HLW s (by omega); omega
    have hBl := blk_le (P := F1) (by omega) (unhide HB6)
    have HBK := hide fun Z1 W (hG : Gnd W g Z1 F1) => blockers_any H g n Z1 F1 W hG (by omega) (by omega) (by unfold maxLen; omega) (unhide HB6)
    rw [hF1] at HBK
    obtain ⟨B, eB⟩ : ∃ B, B = blkP F1 := ⟨_, rfl⟩
    rw [← eB] at HBK HCZ HCL hBl HCA
    unfold gndV at HLO HBK ⊢
    clear eF eB hF1 hF2 hF3
    go_enter Try.func62, Try.ntmps62
    go_upto_region 1 with (fail)
    obtain ⟨g0, eg0⟩ : ∃ z, z = w.heap.size := ⟨_, rfl⟩
    have hg0 : g < g0 := by rw [eg0]; exact hgl
    have hwg0 : w.heap.size ≤ g0 := by omega
    obtain ⟨W, eW⟩ : ∃ W, W = w.alloc (.cells #[.int .i64 H, .slice (some ⟨g, 0, none⟩) n n] 90) := ⟨_, rfl⟩
    have hb : Below w.heap.size w W := by rw [eW]; exact Below.alloc1 _ _
    have HB : Hid (OwnV W g0 [.int .i64 H, .slice (some ⟨g, 0, none⟩) n n]) := by rw [eW, eg0]; exact ownV_alloc _ _ _
    rw [← eW, ← eg0]
    clear eW eg0 hgl
    have HK : Hid (Kept (fun b => b = g) w W) := kept_of_below hb
    replace HG := hide ((unhide HG).below hb)
    clear hb
    have b0 := (unhide HB).cell (i := 0) rfl
    have b1 := (unhide HB).cell (i := 1) rfl
    go_wp2_with fail
    refine (unhide HLO _ (unhide HG)).mono ?_
    rintro e w1 ⟨rfl, Z1, hG, hk⟩
    replace HB := hide ((unhide HB).kept hk (by omega))
    replace HK := hide ((unhide HK).trans hk)
    clear HG
    have HG := hide hG
    clear hk hG b0 b1 HLO
    have b0 := (unhide HB).cell (i := 0) rfl
    have b1 := (unhide HB).cell (i := 1) rfl
    go_wp2_with fail
    refine (unhide HBK _ _ (unhide HG)).mono ?_
    rintro e w2 ⟨rfl, hb⟩
    replace HG := hide ((unhide HG).below hb)
    replace HB := hide ((unhide HB).step hb)
    replace HK := hide ((unhide HK).trans (kept_of_below hb))
    clear hb b0 b1 HBK
    have hg0l := (unhide HB).lt
    by_cases hB : B = 0
    · have HEV := hide ((unhide EA).trans (unhide HCZ hB))
      have eB0 : ((B : Int) == 0) = true := by simp [hB]
      have HBZ := hide hB
      clear hB
      go_wp2
      go_ret
      exact ⟨by rw [unhide HEV]; rfl, unhide HK⟩
    · by_cases hBm : m + 1 < B
      · have HEV := hide ((unhide EA).trans (unhide HCL hBm))
        have eB0 : ((B : Int) == 0) = false := by simp; omega
        have eBm : decide (((m : Int) + 1) < (B : Int)) = true := by simp; omega
        have eBm2 : ((m : Int) + 1) < (B : Int) := by omega
        go_wp2
        go_ret
        exact ⟨by rw [unhide HEV]; rfl, unhide HK⟩
      · have HEV := hide ((unhide EA).trans (unhide HCA hB hBm))
        have eB0 : ((B : Int) == 0) = false := by simp; omega
        have eBm : decide ((((m + 1 : Nat) : Int)) < (B : Int)) = false := by simp; omega
        have eBm2 : ¬ ((m : Int) + 1 < (B : Int)) := by omega
        have HL1 : Hid (∀ s, s < F1.length → ((F1.getD s []).length : Int) ≤ H) := unhide HLW
        have hm1w : ((m + 1 : Nat) : Int) - 1 = (m : Int) := by omega
        obtain ⟨f, ef⟩ : ∃ f : Nat → Nat → Bool, f = fun a b => goAB H F1 a b && canP H L m (shiftP F1 a b) k1 := ⟨_, rfl⟩
        rw [← ef] at HEV
        have HFG : Hid (∀ a b, goAB H F1 a b = false → f a b = false) := fun a b h => by rw [ef]; simp [h]
        have HFC : Hid (∀ a b, goAB H F1 a b = true → f a b = canP H L m (shiftP F1 a b) k1) := fun a b h => by rw [ef]; simp [h]
        clear ef
        have b0 := (unhide HB).cell (i := 0) rfl
        have b1 := (unhide HB).cell (i := 1) rfl
        go_wp2
        clear b0 b1
        go_loopg [31] n (fun gh iv wr => ∃ a : Nat, a ≤ n ∧ gh = n - a ∧ iv = .int .i64 a ∧ Hid (∀ a', a' < a → ∀ b, b < n → f a' b = false) ∧ Hid (Gnd wr g Z1 F1) ∧ Hid (OwnV wr g0 [.int .i64 H, .slice (some ⟨g, 0, none⟩) n n]) ∧ Hid (Kept (fun b => b = g) w wr))
        case atStart => exact ⟨0, Nat.zero_le _, rfl, rfl, fun a' h => absurd h (Nat.not_lt_zero a'), HG, HB, HK⟩
        case round =>
          clear HG HB HK
          obtain ⟨a, ha, rfl, rfl, HFA, HG, HB, HK⟩ := hrel
          by_cases han : a < n
          · have hai : (a : Int) < (n : Int) := by omega
            have b0 := (unhide HB).cell (i := 0) rfl
            have b1 := (unhide HB).cell (i := 1) rfl
            go_wp2
            clear b0 b1
            go_loopg [37] n (fun gh iv wr => ∃ b : Nat, b ≤ n ∧ gh = n - b ∧ iv = .int .i64 b ∧ Hid (∀ b', b' < b → f a b' = false) ∧ Hid (Gnd wr g Z1 F1) ∧ Hid (OwnV wr g0 [.int .i64 H, .slice (some ⟨g, 0, none⟩) n n]) ∧ Hid (Kept (fun b => b = g) w wr))
            case atStart => exact ⟨0, Nat.zero_le _, rfl, rfl, fun a' h => absurd h (Nat.not_lt_zero a'), HG, HB, HK⟩
            case round =>
              clear HG HB HK
              obtain ⟨b, hb0, rfl, rfl, HFB, HG, HB, HK⟩ := hrel
              by_cases hbn : b < n
              · have hbi : (b : Int) < (n : Int) := by omega
                have hFl := unhide HFL
                have HEM := hide fun W (hG : Gnd W g Z1 F1) => isEmptyT_any H g n Z1 F1 a W hG (by omega) (Nat.le_of_eq hFl) (by omega)
                have HFU := hide fun W (hG : Gnd W g Z1 F1) => isFullT_any H g n Z1 F1 b W hG (by omega) (Nat.le_of_eq hFl) (by omega)
                rw [hFl] at HEM HFU
                unfold gndV at HEM HFU
                have HNX : Hid (f a b = false → ∀ b', b' < b + 1 → f a b' = false) := fun h b' hb' => by
                  by_cases e : b' = b
                  · subst e; exact h
                  · exact unhide HFB b' (by omega)
                clear hFl
                by_cases hab : a = b
                · have eab : ((a : Int) == (b : Int)) = true := by simp [hab]
                  have HN := hide (unhide HNX (unhide HFG a b (by simp [goAB, hab])))
                  have HAB := hide hab
                  clear hab
                  go_wp2
                  go_roundg (n - (b + 1))
                  case measure => omega
                  case rel => exact ⟨b + 1, by omega, rfl, by go_num, HN, HG, HB, HK⟩
                · have eab : ((a : Int) == (b : Int)) = false := by simp; omega
                  cases hem : emB F1 a with
                  | true =>
                    have HN := hide (unhide HNX (unhide HFG a b (by
                      have h1 := of_decide_eq_true hem
                      have h2 : decide (0 < (F1.getD a []).length) = false := decide_eq_false (by omega)
                      rw [goAB, h2, Bool.false_and, Bool.and_false])))
                    rw [hem] at HEM
                    clear hem
                    have b0 := (unhide HB).cell (i := 0) rfl
                    have b1 := (unhide HB).cell (i := 1) rfl
                    go_wp2_with fail
                    refine (unhide HEM _ (unhide HG)).mono ?_
                    rintro e w3 ⟨rfl, hb⟩
                    replace HG := hide ((unhide HG).below hb)
                    replace HB := hide ((unhide HB).step hb)
                    replace HK := hide ((unhide HK).trans (kept_of_below hb))
                    have hg0l := (unhide HB).lt
                    clear hb b0 b1
                    go_wp2
                    go_roundg (n - (b + 1))
                    case measure => omega
                    case rel => exact ⟨b + 1, by omega, rfl, by go_num, HN, HG, HB, HK⟩
                  | false =>
                    have hae : (F1.getD a []).length ≠ 0 := of_decide_eq_false hem
                    rw [hem] at HEM
                    clear hem
                    cases hfu : fuB H F1 b with
                    | true =>
                      have HN := hide (unhide HNX (unhide HFG a b (by
                        have h1 := of_decide_eq_true hfu
                        have h2 : decide (((F1.getD b []).length : Int) < H) = false := decide_eq_false (by omega)
                        rw [goAB, h2, Bool.and_false, Bool.and_false])))
                      rw [hfu] at HFU
                      clear hfu
                      have b0 := (unhide HB).cell (i := 0) rfl
                      have b1 := (unhide HB).cell (i := 1) rfl
                      go_wp2_with fail
                      refine (unhide HEM _ (unhide HG)).mono ?_
                      rintro e w3 ⟨rfl, hb⟩
                      replace HG := hide ((unhide HG).below hb)
                      replace HB := hide ((unhide HB).step hb)
                      replace HK := hide ((unhide HK).trans (kept_of_below hb))
                      have hg0l := (unhide HB).lt
                      clear hb b0 b1
                      have b0 := (unhide HB).cell (i := 0) rfl
                      have b1 := (unhide HB).cell (i := 1) rfl
                      go_wp2_with fail
                      refine (unhide HFU _ (unhide HG)).mono ?_
                      rintro e w4 ⟨rfl, hb⟩
                      replace HG := hide ((unhide HG).below hb)
                      replace HB := hide ((unhide HB).step hb)
                      replace HK := hide ((unhide HK).trans (kept_of_below hb))
                      have hg0l := (unhide HB).lt
                      clear hb b0 b1
                      go_wp2
                      go_roundg (n - (b + 1))
                      case measure => omega
                      case rel => exact ⟨b + 1, by omega, rfl, by go_num, HN, HG, HB, HK⟩
                    | false =>
                      have hbf : ((F1.getD b []).length : Int) < H := by have := of_decide_eq_false hfu; omega
                      rw [hfu] at HFU
                      clear hfu
                      have HGO : Hid (goAB H F1 a b = true) := by show _ = _; simp only [goAB, Bool.and_eq_true, decide_eq_true_eq]; exact ⟨hab, by omega, hbf⟩
                      have HFV := hide (unhide HFC a b (unhide HGO))
                      have hFl := unhide HFL
                      have hrow : F1.getD a [] = (F1.getD a []).headD 0 :: (F1.getD a []).tail := by
                        cases hr : F1.getD a [] with
                        | nil => rw [hr] at hae; simp at hae
                        | cons y ys => rfl
                      have h6a := unhide HL1 a (by omega)
                      have h6b := unhide HL1 b (by omega)
                      have HOW := hide fun W (hG : Gnd W g Z1 F1) => ownT_any H g n Z1 F1 W hG (Nat.le_of_eq hFl) (by omega)
                      have HLI := hide fun g2 W (hG : Gnd W g2 Z1 F1) => liftT_any H g2 n Z1 F1 _ _ a W hG (by omega) (Nat.le_of_eq hFl) (by omega) hrow (by rw [List.length_tail]; omega)
                      have HPU := hide fun g2 Z2 W (hG : Gnd W g2 Z2 (F1.set a (F1.getD a []).tail)) => putT_any H g2 n Z2 (F1.set a (F1.getD a []).tail) ((F1.getD a []).headD 0) b W hG (by rw [List.length_set]; omega) (by rw [List.length_set]; exact Nat.le_of_eq hFl) (by omega) (by rw [rowset_ne (fun e => hab e.symm)]; omega)
                      rw [hFl] at HOW HLI
                      rw [List.length_set, hFl] at HPU
                      have HIH := hide fun g2 Z2 W (hG : Gnd W g2 Z2 (shiftP F1 a b)) => unhide IH g2 k1 Z2 (shiftP F1 a b) W hG (by rw [shiftP_len]; omega) (by rw [shiftP_len]; exact shiftP_low hab (unhide HL1) hbf) hk1 (by omega)
                      rw [shiftP_len, hFl] at HIH
                      unfold gndV at HOW HLI HPU HIH
                      obtain ⟨x, ex⟩ : ∃ x, x = (F1.getD a []).headD 0 := ⟨_, rfl⟩
                      rw [← ex] at HLI HPU
                      have EX := hide ex
                      clear hrow hFl ex h6a h6b hae hbf
                      have b0 := (unhide HB).cell (i := 0) rfl
                      have b1 := (unhide HB).cell (i := 1) rfl
                      go_wp2_with fail
                      refine (unhide HEM _ (unhide HG)).mono ?_
                      rintro e w3 ⟨rfl, hb⟩
                      replace HG := hide ((unhide HG).below hb)
                      replace HB := hide ((unhide HB).step hb)
                      replace HK := hide ((unhide HK).trans (kept_of_below hb))
                      have hg0l := (unhide HB).lt
                      clear hb b0 b1
                      have b0 := (unhide HB).cell (i := 0) rfl
                      have b1 := (unhide HB).cell (i := 1) rfl
                      go_wp2_with fail
                      refine (unhide HFU _ (unhide HG)).mono ?_
                      rintro e w4 ⟨rfl, hb⟩
                      replace HG := hide ((unhide HG).below hb)
                      replace HB := hide ((unhide HB).step hb)
                      replace HK := hide ((unhide HK).trans (kept_of_below hb))
                      have hg0l := (unhide HB).lt
                      clear hb b0 b1
                      have b0 := (unhide HB).cell (i := 0) rfl
                      have b1 := (unhide HB).cell (i := 1) rfl
                      go_wp2_with fail
                      refine (unhide HOW _ (unhide HG)).mono ?_
                      rintro e w5 ⟨g2, rfl, hg2, hG2, hb⟩
                      have hws := (unhide HK).size
                      replace HG := hide ((unhide HG).below hb)
                      replace HB := hide ((unhide HB).step hb)
                      replace HK := hide ((unhide HK).trans (kept_of_below hb))
                      have HN0 := hide hG2
                      have hg2l := hG2.top.lt
                      have hg02 : g0 < g2 := Nat.lt_of_lt_of_le hg0l hg2
                      clear hb hG2 b0 b1
                      go_upto_region 13 with (fail)
                      obtain ⟨gm, egm⟩ : ∃ z, z = w5.heap.size := ⟨_, rfl⟩
                      obtain ⟨W6, eW⟩ : ∃ z, z = w5.alloc (.cells #[.int .i64 H, .slice (some ⟨g2, 0, none⟩) n n] 90) := ⟨_, rfl⟩
                      have hb : Below w5.heap.size w5 W6 := by rw [eW]; exact Below.alloc1 _ _
                      have HM : Hid (OwnV W6 gm [.int .i64 H, .slice (some ⟨g2, 0, none⟩) n n]) := by rw [eW, egm]; exact ownV_alloc _ _ _
                      rw [← eW, ← egm]
                      have hgm : g2 < gm := by rw [egm]; exact hg2l
                      replace HG := hide ((unhide HG).below hb)
                      replace HN0 := hide ((unhide HN0).below hb)
                      replace HB := hide ((unhide HB).step hb)
                      replace HK := hide ((unhide HK).trans (kept_of_below hb))
                      clear hb eW egm hg2l
                      obtain ⟨wd, ewd⟩ : ∃ z, z = W6.drew := ⟨_, rfl⟩
                      have hb : Below W6.heap.size W6 wd := by rw [ewd]; exact (Below.refl _ _).drew
                      replace HG := hide ((unhide HG).below hb)
                      replace HN0 := hide ((unhide HN0).below hb)
                      replace HB := hide ((unhide HB).step hb)
                      replace HM := hide ((unhide HM).step hb)
                      replace HK := hide ((unhide HK).trans (kept_of_below hb))
                      clear hb
                      refine wp_region_held_drew (S := fun w' => w'.cell? ⟨gm, 0, none⟩ = some (.int .i64 H) ∧ w'.cell? ⟨gm, 1, none⟩ = some (.slice (some ⟨g2, 0, none⟩) n n)) (by kernel_rfl) ⟨by rw [← ewd]; exact (unhide HM).cell (i := 0) rfl, by rw [← ewd]; exact (unhide HM).cell (i := 1) rfl⟩ (fun hHeld => ?_)
                      rw [← ewd] at hHeld ⊢
                      clear ewd
                      refine wpAnyH_take (i := 0) (v := ?_) rfl (by kernel_rfl) (by kernel_rfl) (by kernel_rfl) (fun _ _ _ h => h) (Or.inl ⟨by rfl, ?_⟩) (by assumption) ?_
                      rotate_left
                      · intro wy hSw
                        obtain ⟨hS0, hS1⟩ := hSw
                        go_simp
                        try with_reducible rfl
                      try simp only [Act.put, List.getElem_toArray, List.getElem_cons_zero, List.setIfInBounds_toArray, List.set_cons_zero, List.set_cons_succ]
                      refine wpAnyH_take (i := 1) (v := ?_) rfl (by kernel_rfl) (by kernel_rfl) (by kernel_rfl) (fun _ _ _ h => h) (Or.inl ⟨by rfl, ?_⟩) (by assumption) ?_
                      rotate_left
                      · intro wy hSw
                        obtain ⟨hS0, hS1⟩ := hSw
                        go_simp
                        try with_reducible rfl
                      try simp only [Act.put, List.getElem_toArray, List.getElem_cons_succ, List.getElem_cons_zero, List.setIfInBounds_toArray, List.set_cons_zero, List.set_cons_succ]
                      refine wpAnyH_take (i := 2) (v := ?_) rfl (by kernel_rfl) (by kernel_rfl) (by kernel_rfl) (fun _ _ _ h => h) (Or.inl ⟨by rfl, ?_⟩) (by assumption) ?_
                      rotate_left
                      · intro wy hSw
                        obtain ⟨hS0, hS1⟩ := hSw
                        go_simp
                        try with_reducible rfl
                      try simp only [Act.put, List.getElem_toArray, List.getElem_cons_succ, List.getElem_cons_zero, List.setIfInBounds_toArray, List.set_cons_zero, List.set_cons_succ]
                      refine wpAnyH_take (i := 4) (v := ?_) rfl (by kernel_rfl) (by kernel_rfl) (by kernel_rfl) (fun _ _ _ h => h) (Or.inl ⟨by rfl, ?_⟩) (by assumption) ?_
                      rotate_left
                      · intro wy hSw
                        obtain ⟨hS0, hS1⟩ := hSw
                        go_simp
                        try with_reducible rfl
                      try simp only [Act.put, List.getElem_toArray, List.getElem_cons_succ, List.getElem_cons_zero, List.setIfInBounds_toArray, List.set_cons_zero, List.set_cons_succ]
                      refine wpAnyH_ready (rs := [3]) (by kernel_rfl) (by simp) ?_
                      refine AllReadyH.cons rfl (fun K hK => ?_) AllReadyH.nil
                      go_simp
                      have HNL := hide ((unhide HN0).noInt (by have := unhide HFL; omega))
                      refine (unhide HLI _ _ (unhide HN0)).mono ?_
                      rintro e w6 ⟨rfl, Z2, hG2, hk⟩
                      have hkb := (unhide HK).size
                      have hk6 := hk.size
                      replace HG := hide ((unhide HG).kept hk (by omega) (unhide HNL))
                      replace HB := hide ((unhide HB).kept hk (by omega))
                      replace HM := hide ((unhide HM).kept hk (by omega))
                      replace HK := hide (kept_belowAt (unhide HK) (hk.below (B := w.heap.size) hkb (fun k e => by omega)) (Nat.le_refl _))
                      have HN1 := hide hG2
                      clear hk hG2 HN0 HNL hkb
                      refine hK.out _ _ ⟨(unhide HM).cell (i := 0) rfl, (unhide HM).cell (i := 1) rfl⟩ (fun hHeld => ?_)
                      clear hK K
                      try simp only [Act.put, List.setIfInBounds_toArray, List.set_cons_zero, List.set_cons_succ]
                      refine wpAnyH_ready (rs := [5]) (by kernel_rfl) (by simp) ?_
                      refine AllReadyH.cons rfl (fun K hK => ?_) AllReadyH.nil
                      go_simp
                      have HNL := hide ((unhide HN1).noInt (by rw [List.length_set]; have := unhide HFL; omega))
                      refine (unhide HPU _ _ _ (unhide HN1)).mono ?_
                      rintro e w7 ⟨rfl, Z3, hG2, hk⟩
                      have hkb := (unhide HK).size
                      replace HG := hide ((unhide HG).kept hk (by omega) (unhide HNL))
                      replace HB := hide ((unhide HB).kept hk (by omega))
                      replace HM := hide ((unhide HM).kept hk (by omega))
                      replace HK := hide (kept_belowAt (unhide HK) (hk.below (B := w.heap.size) hkb (fun k e => by omega)) (Nat.le_refl _))
                      have HN2 := hide hG2
                      have hws2 := (unhide HK).size
                      clear hk hG2 HN1 HNL hkb
                      refine hK.out _ _ ⟨(unhide HM).cell (i := 0) rfl, (unhide HM).cell (i := 1) rfl⟩ (fun hHeld => ?_)
                      clear hK K
                      try simp only [Act.put, List.setIfInBounds_toArray, List.set_cons_zero, List.set_cons_succ]
                      refine wpAnyH_done (by kernel_rfl) ?_ _
                      have HST : Hid ((F1.set a (F1.getD a []).tail).set b (x :: (F1.set a (F1.getD a []).tail).getD b []) = shiftP F1 a b) := by show _ = _; rw [unhide EX]; rfl
                      rw [unhide HST] at HN2
                      clear HST
                      have m0 := (unhide HM).cell (i := 0) rfl
                      have m1 := (unhide HM).cell (i := 1) rfl
                      cases hr : canP H L m (shiftP F1 a b) k1 with
                      | true =>
                        have HIQ := hide fun g2 Z2 W hG => unhide HIH g2 Z2 W hG
                        rw [hr] at HIQ HFV
                        clear hr
                        go_wp2_with fail
                        refine (unhide HIQ _ _ _ (unhide HN2)).mono ?_
                        rintro e w9 ⟨rfl, hk⟩
                        replace HK := hide (kept_belowAt (unhide HK) (hk.below (B := w.heap.size) (by omega) (fun k e => by omega)) (Nat.le_refl _))
                        clear hk m0 m1
                        have HT := hide ((unhide HEV).trans (anyAB_true (by have := unhide HFL; omega) (by have := unhide HFL; omega) (unhide HFV)))
                        go_wp2
                        go_ret
                        exact ⟨by rw [unhide HT]; rfl, unhide HK⟩
                      | false =>
                        have HIQ := hide fun g2 Z2 W hG => unhide HIH g2 Z2 W hG
                        rw [hr] at HIQ HFV
                        clear hr
                        have HN := hide (unhide HNX (unhide HFV))
                        go_wp2_with fail
                        refine (unhide HIQ _ _ _ (unhide HN2)).mono ?_
                        rintro e w9 ⟨rfl, hk⟩
                        replace HG := hide ((unhide HG).kept hk (by omega) ((unhide HN2).noInt (by rw [shiftP_len]; have := unhide HFL; omega)))
                        replace HB := hide ((unhide HB).kept hk (by omega))
                        replace HK := hide (kept_belowAt (unhide HK) (hk.below (B := w.heap.size) (by omega) (fun k e => by omega)) (Nat.le_refl _))
                        clear hk m0 m1
                        go_wp2
                        go_roundg (n - (b + 1))
                        case measure => omega
                        case rel => exact ⟨b + 1, by omega, rfl, by go_num, HN, HG, HB, HK⟩
              · have hbb : b = n := by omega
                subst hbb
                have HN : Hid (∀ a', a' < a + 1 → ∀ b', b' < b → f a' b' = false) := fun a' ha' b' hb' => by
                  by_cases e : a' = a
                  · subst e; exact unhide HFB b' hb'
                  · exact unhide HFA a' (by omega) b' hb'
                go_wp2
                go_roundg (b - (a + 1))
                case measure => omega
                case rel => exact ⟨a + 1, by omega, rfl, by go_num, HN, HG, HB, HK⟩
          · have haa : a = n := by omega
            have HT := hide ((unhide HEV).trans (anyAB_false (fun a' ha' b' hb' => unhide HFA a' (by have := unhide HFL; omega) b' (by have := unhide HFL; omega))))
            subst haa
            go_wp2
            go_ret
            exact ⟨by rw [unhide HT]; rfl, unhide HK⟩

end Go.Proofs.Ytdiifkeebgdfkaa
