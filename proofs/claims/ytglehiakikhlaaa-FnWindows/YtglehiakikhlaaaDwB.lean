/- Contracts of the specification's l5DrawDay and DrawWindowsOf. -/
import Derived.Test.YtglehiakikhlaaaDwA
import Derived.Test.YtglehiakikhlaaaGrow
import Derived.Test.YtglehiakikhlaaaFlL
import Derived.Test.YtglehiakikhlaaaTwoR
import Derived.Test.YtglehiakikhlaaaOwC
namespace Go.Proofs.Ytglehiakikhlaaa
open Go.RowKit

attribute [local go_sem] run_store_float

theorem cur_newD {w : World} {v : Value} {n : Nat} (h : BytesIn w.heap.size w v n) (z : Int) (t : TypeId) : Cur (w.alloc (.cells #[v, .int .i64 0, .int .i64 z] t)) w.heap.size v n :=
  ⟨h.below (Below.alloc1 _ _) (Nat.le_refl _), 0, z, by omega, by omega, #[v, .int .i64 0, .int .i64 z], t, Go.Deep.blk_alloc_new _ _, fun i _ => by simp⟩

set_option maxHeartbeats 800000 in
theorem l1NewD_any (v : Value) (n : Nat) (w : World) (h : BytesIn w.heap.size w v n) (hn : n ≤ 1048576) :
    Calls Try.prog 44 #[v] w fun e w' => e = .returned (.pointer (some ⟨w.heap.size, 0, none⟩)) ∧ Cur w' w.heap.size v n ∧ Below w.heap.size w w' ∧ w'.heap.size = w.heap.size + 1 := by
  have HB := hide h
  obtain ⟨ao, cap, rfl, hl, hm, hc⟩ := h
  have HC := hide hc
  unfold maxLen at hm
  clear hc
  go_enter Try.func44, Try.ntmps44
  go_wp2
  go_loopg [3, 4] n (fun g hv iv wr => w = wr ∧ ∃ k : Nat, ∃ z : Int, k ≤ n ∧ g = n - k ∧ iv = .int .i64 k ∧ hv = .int .i64 z)
  case atStart => exact ⟨rfl, 0, _, Nat.zero_le _, rfl, rfl, rfl⟩
  case round =>
    obtain ⟨rfl, k, z, hk, rfl, rfl, rfl⟩ := hrel
    by_cases hkn : k < n
    · have hkn' : (k : Int) < (n : Int) := by omega
      by_cases hk4 : k < 4000
      · have hk4' : (k : Int) < 4000 := by omega
        obtain ⟨b, o, y, rfl, hlt, hcell, hy1, hy2⟩ := unhide HC k hkn
        go_wp2
        go_roundg (n - (k + 1))
        case measure => omega
        case rel => exact ⟨rfl, k + 1, _, by omega, rfl, by go_num, rfl⟩
      · have hk4' : decide ((k : Int) < 4000) = false := by simp; omega
        go_wp2
        go_ret
        exact ⟨rfl, cur_newD (unhide HB) _ _, Below.alloc1 _ _, by simp⟩
    · have hkn' : decide ((k : Int) < (n : Int)) = false := by simp; omega
      go_wp2
      go_ret
      exact ⟨rfl, cur_newD (unhide HB) _ _, Below.alloc1 _ _, by simp⟩

/-- The day that is drawn, beside the cursor. -/
structure DayD (w A : World) (cb n : Nat) (v u : Value) (xs : List Nat) : Prop where
  row : A.ownsRow w.heap.size 25 1 u xs.length (fls xs)
  kept : Kept (fun b => b = cb) w A
  cur : Cur A cb v n
  fv : ∃ g c, u = .slice (some ⟨g, 0, none⟩) xs.length c
theorem DayD.kstep {w A B : World} {cb n : Nat} {v u : Value} {xs : List Nat} (h : DayD w A cb n v u xs) (hcb : cb < w.heap.size) (hk : Kept (fun b => b = cb) A B) (hc : Cur B cb v n) : DayD w B cb n v u xs :=
  ⟨ownsRow_kept h.row hk (fun g h1 _ _ h2 => by omega), h.kept.trans hk, hc, h.fv⟩
theorem DayD.below {w A B : World} {cb n : Nat} {v u : Value} {xs : List Nat} (h : DayD w A cb n v u xs) (hb : Below A.heap.size A B) : DayD w B cb n v u xs :=
  ⟨ownsRow_below h.row hb, h.kept.trans (kept_of_below hb), h.cur.below hb, h.fv⟩

/-- Behind an append. -/
theorem DayD.next {w A B : World} {cb n : Nat} {v u : Value} {xs : List Nat} (h : DayD w A cb n v u xs) (hcb : cb < w.heap.size) {g cap k r : Nat} (hk : xs.length = k)
    (hown : B.ownsRow w.heap.size 25 1 (.slice (some ⟨g, 0, none⟩) (k + 1) cap) (k + 1) (fls xs ++ [.float .f64 r])) (hg : A.grownBy B u.ownBlock) : DayD w B cb n v (.slice (some ⟨g, 0, none⟩) (k + 1) cap) (xs ++ [r]) := by
  subst hk
  have hb : ∀ q, u.ownBlock = some q → w.heap.size ≤ q := fun q hq => (h.row.lt q hq).1
  have h1 : Kept (fun b => w.heap.size ≤ b) A B := (Kept.refl _ A).grown hg hb
  refine ⟨?_, ((h.kept.mono (T' := fun b => b = cb ∨ w.heap.size ≤ b) (fun _ _ h => Or.inl h)).trans (h1.mono (fun _ _ h => Or.inr h))).mono (fun k hk h => by rcases h with h | h; exact h; omega), h.cur.kept h1 (fun b hb => by omega), ⟨g, cap, by simp⟩⟩
  rw [List.length_append, fls, List.map_append]
  exact hown

set_option maxRecDepth 10000 in
set_option maxHeartbeats 8000000 in
theorem l5DrawDay_any (cb n : Nat) (v : Value) (w : World) (h : Cur w cb v n) (hn : n ≤ 1048576) :
    Calls Try.prog 48 #[.pointer (some ⟨cb, 0, none⟩)] w fun e w' => ∃ u xs, e = .returned u ∧ FlIn w' u xs ∧ xs.length ≤ 1501 ∧ Kept (fun b => b = cb) w w' := by
  have HB := hide fun k V hV h0 h1 => l1BelowW_any cb n v k V hV hn h0 h1
  have HO := hide fun k V hV h0 h1 => l1Once_any cb n v k V hV hn h0 h1
  have HF := hide fun V hV => l4DrawFloat_any cb n v V hV hn
  have hcb := h.lt
  obtain ⟨i0, hi, hz0, hz1, hz2⟩ := info_parts Try.infoF64
  have HD : Hid (DayD w (w.alloc (.cells #[] 25)) cb n v (.slice (some ⟨w.heap.size, 0, none⟩) 0 0) []) :=
    ⟨⟨rfl, Or.inr ⟨w.heap.size, 0, #[], rfl, Nat.le_refl _, Go.Deep.blk_alloc_new _ _, Nat.le_refl _, Nat.zero_le _, rfl, rfl⟩⟩, kept_of_below (Below.alloc1 _ _), h.below (Below.alloc1 _ _), ⟨_, _, rfl⟩⟩
  clear h
  go_enter Try.func48, Try.ntmps48
  go_wp2_with fail
  refine (unhide HB _ _ (unhide HD).cur (by omega) (by omega)).mono ?_
  rintro e w1 ⟨x, rfl, hx0, hx1, hc, hk⟩
  replace HD := hide ((unhide HD).kstep hcb hk hc)
  clear hc hk
  go_wp2_with fail
  refine (unhide HO _ _ (unhide HD).cur (by omega) (by omega)).mono ?_
  rintro e w2 ⟨bb, rfl, hc, hk⟩
  replace HD := hide ((unhide HD).kstep hcb hk hc)
  clear hc hk
  have main : ∀ (N : Nat), N ≤ 1501 → True := fun _ _ => trivial
  clear main
  cases bb with
  | true =>
    go_wp2_with fail
    refine (unhide HB _ _ (unhide HD).cur (by omega) (by omega)).mono ?_
    rintro e w3 ⟨y, rfl, hy0, hy1, hc, hk⟩
    replace HD := hide ((unhide HD).kstep hcb hk hc)
    clear hc hk
    obtain ⟨Y, rfl⟩ := Int.eq_ofNat_of_zero_le hy0
    obtain ⟨N, eN⟩ : ∃ N : Nat, (N : Int) = 1500 + (Y : Int) := ⟨1500 + Y, by omega⟩
    have hN : N ≤ 1501 := by omega
    have hwN : IntKind.i64.wrap (1500 + (Y : Int)) = (N : Int) := by rw [IntKind.wrap_i64]; omega
    have eN' : 1500 + (Y : Int) = (N : Int) := eN.symm
    clear eN
    go_wp2
    go_loopg [3, 5, 6] N (fun g ov xv iv wr => ∃ k : Nat, k ≤ N ∧ g = N - k ∧ iv = .int .i64 k ∧ (∃ z : Int, xv = .int .i64 z ∧ -3 * (k : Int) ≤ z ∧ z ≤ 3 * (k : Int)) ∧ ∃ xs : List Nat, xs.length = k ∧ Hid (DayD w wr cb n v ov xs))
    case atStart => exact ⟨0, Nat.zero_le _, rfl, rfl, ⟨0, rfl, by omega, by omega⟩, [], rfl, HD⟩
    case round =>
      clear HD
      obtain ⟨k, hk, rfl, rfl, ⟨z, rfl, hz0', hz1'⟩, xs, hxs, HD⟩ := hrel
      obtain ⟨g, c, rfl⟩ := (unhide HD).fv
      have hsz := (unhide HD).kept.size
      by_cases hkn : k < N
      · have hki : (k : Int) < N := by omega
        go_wp2_with fail
        refine (unhide HB _ _ (unhide HD).cur (by omega) (by omega)).mono ?_
        rintro e w4 ⟨y, rfl, hy0, hy1, hc, hkk⟩
        replace HD := hide ((unhide HD).kstep hcb hkk hc)
        clear hc hkk
        go_wp2_with (refine wpList_float rfl _ _ _ _ _ rfl rfl .f64 _ _ rfl rfl ?_; intro r q hr)
        refine (unhide HO _ _ ((unhide HD).cur.drewN q) (by omega) (by omega)).mono ?_
        rintro e w5 ⟨b2, rfl, hc, hkk⟩
        replace HD := hide (((unhide HD).below (below_drewN (Below.refl _ _) q)).kstep hcb hkk hc)
        clear hc hkk
        have hsz5 := (unhide HD).kept.size
        have HXS := hide hxs
        cases b2 with
        | true =>
          go_wp2_with fail
          refine (unhide HF _ (unhide HD).cur).mono ?_
          rintro e w6 ⟨r2, rfl, hc, hkk⟩
          replace HD := hide ((unhide HD).kstep hcb hkk hc)
          clear hc hkk
          have hsz6 := (unhide HD).kept.size
          have HR1 := hide fun q r => ownsRow_below (ownsRow_below (unhide HD).row (below_drewN (Below.refl _ w6) q)) (Below.alloc1 (w6.drewN q) (.cells #[.float .f64 r] 25))
          rw [hxs] at HR1
          go_wp2_with (first | (refine wpList_up rfl 74 25 _ rfl (by rw [Try.underlying74]; rfl) Try.underlying25 _ rfl ?_; intro r3 q3 hr3) | (at_builtin; refine wpList_append_lies _ rfl _ _ 24 rfl w.heap.size 25 i0 _ 1 8 Try.underlying24 hi hz0 hz1 hz2 rfl (by decide) _ k _ rfl (unhide HR1 q3 r3) ⟨w6.heap.size, 0, none⟩ 1 1 [.float .f64 r3] rfl rfl (cell_one_new _ _ _) (by simp [Value.oneCell']) (by omega) (by unfold maxLen; omega) (by omega) (by simp; omega) _ rfl ?_; intro g1 cap1 wa hown hgrow hat hlt; have HD2 := hide ((((unhide HD).below (below_drewN (Below.refl _ w6) q3)).below (Below.alloc1 (w6.drewN q3) (.cells #[.float .f64 r3] 25))).next hcb (unhide HXS) hown hgrow); clear hown hgrow hat))
          go_roundg (N - (k + 1))
          case measure => omega
          case rel => exact ⟨k + 1, by omega, rfl, by go_num, ⟨_, rfl, by omega, by omega⟩, _, by rw [List.length_append, unhide HXS]; rfl, HD2⟩
        | false =>
          have HR1 := hide (ownsRow_below (unhide HD).row (Below.alloc1 w5 (.cells #[.float .f64 r] 25)))
          rw [hxs] at HR1
          go_wp2_with (at_builtin; refine wpList_append_lies _ rfl _ _ 24 rfl w.heap.size 25 i0 _ 1 8 Try.underlying24 hi hz0 hz1 hz2 rfl (by decide) _ k _ rfl (unhide HR1) ⟨w5.heap.size, 0, none⟩ 1 1 [.float .f64 r] rfl rfl (cell_one_new _ _ _) (by simp [Value.oneCell']) (by omega) (by unfold maxLen; omega) (by omega) (by simp; omega) _ rfl ?_; intro g1 cap1 wa hown hgrow hat hlt; have HD2 := hide (((unhide HD).below (Below.alloc1 w5 (.cells #[.float .f64 r] 25))).next hcb (unhide HXS) hown hgrow); clear hown hgrow hat)
          go_roundg (N - (k + 1))
          case measure => omega
          case rel => exact ⟨k + 1, by omega, rfl, by go_num, ⟨_, rfl, by omega, by omega⟩, _, by rw [List.length_append, unhide HXS]; rfl, HD2⟩
      · have hkk : (N : Int) ≤ k := by omega
        have HFI := hide (ownsRow_ownC (E := Value.float .f64) (unhide HD).row rfl).intsIn
        have HKK := hide (unhide HD).kept
        go_wp2
        go_ret
        exact ⟨_, xs, rfl, unhide HFI, by omega, unhide HKK⟩
  | false =>
    obtain ⟨N, rfl⟩ := Int.eq_ofNat_of_zero_le hx0
    have hN : N ≤ 1501 := by omega
    go_wp2
    go_loopg [3, 5, 6] N (fun g ov xv iv wr => ∃ k : Nat, k ≤ N ∧ g = N - k ∧ iv = .int .i64 k ∧ (∃ z : Int, xv = .int .i64 z ∧ -3 * (k : Int) ≤ z ∧ z ≤ 3 * (k : Int)) ∧ ∃ xs : List Nat, xs.length = k ∧ Hid (DayD w wr cb n v ov xs))
    case atStart => exact ⟨0, Nat.zero_le _, rfl, rfl, ⟨0, rfl, by omega, by omega⟩, [], rfl, HD⟩
    case round =>
      clear HD
      obtain ⟨k, hk, rfl, rfl, ⟨z, rfl, hz0', hz1'⟩, xs, hxs, HD⟩ := hrel
      obtain ⟨g, c, rfl⟩ := (unhide HD).fv
      have hsz := (unhide HD).kept.size
      by_cases hkn : k < N
      · have hki : (k : Int) < N := by omega
        go_wp2_with fail
        refine (unhide HB _ _ (unhide HD).cur (by omega) (by omega)).mono ?_
        rintro e w4 ⟨y, rfl, hy0, hy1, hc, hkk⟩
        replace HD := hide ((unhide HD).kstep hcb hkk hc)
        clear hc hkk
        go_wp2_with (refine wpList_float rfl _ _ _ _ _ rfl rfl .f64 _ _ rfl rfl ?_; intro r q hr)
        refine (unhide HO _ _ ((unhide HD).cur.drewN q) (by omega) (by omega)).mono ?_
        rintro e w5 ⟨b2, rfl, hc, hkk⟩
        replace HD := hide (((unhide HD).below (below_drewN (Below.refl _ _) q)).kstep hcb hkk hc)
        clear hc hkk
        have hsz5 := (unhide HD).kept.size
        have HXS := hide hxs
        cases b2 with
        | true =>
          go_wp2_with fail
          refine (unhide HF _ (unhide HD).cur).mono ?_
          rintro e w6 ⟨r2, rfl, hc, hkk⟩
          replace HD := hide ((unhide HD).kstep hcb hkk hc)
          clear hc hkk
          have hsz6 := (unhide HD).kept.size
          have HR1 := hide fun q r => ownsRow_below (ownsRow_below (unhide HD).row (below_drewN (Below.refl _ w6) q)) (Below.alloc1 (w6.drewN q) (.cells #[.float .f64 r] 25))
          rw [hxs] at HR1
          go_wp2_with (first | (refine wpList_up rfl 74 25 _ rfl (by rw [Try.underlying74]; rfl) Try.underlying25 _ rfl ?_; intro r3 q3 hr3) | (at_builtin; refine wpList_append_lies _ rfl _ _ 24 rfl w.heap.size 25 i0 _ 1 8 Try.underlying24 hi hz0 hz1 hz2 rfl (by decide) _ k _ rfl (unhide HR1 q3 r3) ⟨w6.heap.size, 0, none⟩ 1 1 [.float .f64 r3] rfl rfl (cell_one_new _ _ _) (by simp [Value.oneCell']) (by omega) (by unfold maxLen; omega) (by omega) (by simp; omega) _ rfl ?_; intro g1 cap1 wa hown hgrow hat hlt; have HD2 := hide ((((unhide HD).below (below_drewN (Below.refl _ w6) q3)).below (Below.alloc1 (w6.drewN q3) (.cells #[.float .f64 r3] 25))).next hcb (unhide HXS) hown hgrow); clear hown hgrow hat))
          go_roundg (N - (k + 1))
          case measure => omega
          case rel => exact ⟨k + 1, by omega, rfl, by go_num, ⟨_, rfl, by omega, by omega⟩, _, by rw [List.length_append, unhide HXS]; rfl, HD2⟩
        | false =>
          have HR1 := hide (ownsRow_below (unhide HD).row (Below.alloc1 w5 (.cells #[.float .f64 r] 25)))
          rw [hxs] at HR1
          go_wp2_with (at_builtin; refine wpList_append_lies _ rfl _ _ 24 rfl w.heap.size 25 i0 _ 1 8 Try.underlying24 hi hz0 hz1 hz2 rfl (by decide) _ k _ rfl (unhide HR1) ⟨w5.heap.size, 0, none⟩ 1 1 [.float .f64 r] rfl rfl (cell_one_new _ _ _) (by simp [Value.oneCell']) (by omega) (by unfold maxLen; omega) (by omega) (by simp; omega) _ rfl ?_; intro g1 cap1 wa hown hgrow hat hlt; have HD2 := hide (((unhide HD).below (Below.alloc1 w5 (.cells #[.float .f64 r] 25))).next hcb (unhide HXS) hown hgrow); clear hown hgrow hat)
          go_roundg (N - (k + 1))
          case measure => omega
          case rel => exact ⟨k + 1, by omega, rfl, by go_num, ⟨_, rfl, by omega, by omega⟩, _, by rw [List.length_append, unhide HXS]; rfl, HD2⟩
      · have hkk : (N : Int) ≤ k := by omega
        have HFI := hide (ownsRow_ownC (E := Value.float .f64) (unhide HD).row rfl).intsIn
        have HKK := hide (unhide HD).kept
        go_wp2
        go_ret
        exact ⟨_, xs, rfl, unhide HFI, by omega, unhide HKK⟩

set_option maxHeartbeats 4000000 in
theorem drawWindowsOf_any (v : Value) (nb : Nat) (w : World) (h : BytesIn w.heap.size w v nb) (hn : nb ≤ 1048576) :
    Calls Try.prog 12 #[v] w fun e w' => ∃ u xs need, e = .returned (.tuple #[u, .float .f64 need]) ∧ FlIn w' u xs ∧ xs.length ≤ 1501 ∧ Below w.heap.size w w' := by
  have H1 := hide (l1NewD_any v nb w h hn)
  obtain ⟨vao, vcap, rfl, _, _, _⟩ := h
  go_enter Try.func12, Try.ntmps12
  go_wp2_with fail
  refine (unhide H1).mono ?_
  rintro e w1 ⟨rfl, hc, hb, hz⟩
  have HC := hide hc
  have HB0 := hide hb
  have HK := hide (Kept.refl (fun b => b = w.heap.size) w1)
  clear hc hb H1
  go_wp2_with fail
  refine (l1BelowW_any _ nb _ 17 _ (unhide HC) hn (by omega) (by omega)).mono ?_
  rintro e w2 ⟨x, rfl, hx0, hx1, hc, hk⟩
  replace HC := hide hc
  replace HK := hide ((unhide HK).trans hk)
  clear hc hk
  go_wp2_with (refine wpList_float rfl _ _ _ _ _ rfl rfl .f64 _ _ rfl rfl ?_; intro r q hr)
  refine (l1Once_any _ nb _ 20 _ ((unhide HC).drewN q) hn (by omega) (by omega)).mono ?_
  rintro e w3 ⟨b, rfl, hc, hk⟩
  replace HC := hide hc
  replace HK := hide ((kept_drewN _ (unhide HK) q).trans hk)
  clear hc hk
  cases b with
  | true =>
    go_wp2_with fail
    refine (l4DrawFloat_any _ nb _ _ (unhide HC) hn).mono ?_
    rintro e w4 ⟨r2, rfl, hc, hk⟩
    replace HC := hide hc
    replace HK := hide ((unhide HK).trans hk)
    clear hc hk
    go_wp2_with (refine wpList_up rfl 74 25 _ rfl (by rw [Try.underlying74]; rfl) Try.underlying25 _ rfl ?_; intro r3 q3 hr3)
    refine (l5DrawDay_any _ nb _ _ ((unhide HC).drewN q3) hn).mono ?_
    rintro e w5 ⟨u, xs, rfl, hI, hxl, hk⟩
    have HI := hide hI
    have HB2 := hide ((unhide HB0).trans (((kept_drewN _ (unhide HK) q3).trans hk).below (by omega) (fun k e => by omega)))
    clear hI hk
    go_wp2
    refine bodyPost_ret (v := .tuple #[u, .float .f64 r3]) (by simp [results, Try.results12, go_sem]) rfl ⟨u, xs, r3, rfl, unhide HI, hxl, unhide HB2⟩
  | false =>
    go_wp2_with fail
    refine (l5DrawDay_any _ nb _ _ (unhide HC) hn).mono ?_
    rintro e w5 ⟨u, xs, rfl, hI, hxl, hk⟩
    have HI := hide hI
    have HB2 := hide ((unhide HB0).trans (((unhide HK).trans hk).below (by omega) (fun k e => by omega)))
    clear hI hk
    go_wp2
    refine bodyPost_ret (v := .tuple #[u, .float .f64 r]) (by simp [results, Try.results12, go_sem]) rfl ⟨u, xs, r, rfl, unhide HI, hxl, unhide HB2⟩

end Go.Proofs.Ytglehiakikhlaaa
