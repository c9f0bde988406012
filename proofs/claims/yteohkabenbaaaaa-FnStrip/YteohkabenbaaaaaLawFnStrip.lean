/- FnStrip: whatever the bytes, a strip of a quarter turn adds whole amps in four directions, and energies add up by their squares. -/
import Derived.Test.YteohkabenbaaaaaFtB
import Derived.Test.YteohkabenbaaaaaAppK
import Derived.Test.YteohkabenbaaaaaAtFix
import Derived.Test.YteohkabenbaaaaaFlI5
import Derived.Test.YteohkabenbaaaaaFlI6
import Derived.Test.YteohkabenbaaaaaRWave
import Derived.Deep.DeepMust
import Derived.WalkSmall
namespace Go.Proofs.Yteohkabenbaaaaa
open Go.RowKit

attribute [local go_sem] run_store_float run_store_complex

set_option maxRecDepth 10000 in
set_option maxHeartbeats 6400000 in
theorem fnStrip_any (v : Value) (nb : Nat) (w : World) (h : BytesIn w.heap.size w v nb) :
    Calls Try.prog 5 #[v] w fun e w' => e = .returned (.bool true) ∧ Below w.heap.size w w' := by
  have HB := hide h
  obtain ⟨vao, vcap, rfl, hl, hm, _⟩ := h
  unfold maxLen at hm
  by_cases hbig : (1048576 : Int) < (nb : Int)
  · go_enter Try.func5, Try.ntmps5
    go_wp2_with fail
    refine (big_any _ _ _ _).mono ?_
    rintro e w' ⟨rfl, rfl⟩
    go_wp2
    go_ret
    exact ⟨rfl, Below.refl _ _⟩
  have hn : nb ≤ 1048576 := by omega
  obtain ⟨y0, y00, y01, at0⟩ := at_fix _ nb 0 w (unhide HB) hn (by omega)
  have AT0 := hide at0
  clear at0
  have hst : AmpW w.heap.size w (w.alloc (.cells #[] 30)) 0 [] (.slice (some ⟨w.heap.size, 0, none⟩) 0 0) :=
    ⟨⟨rfl, Or.inr ⟨w.heap.size, 0, #[], rfl, Nat.le_refl _, Go.Deep.blk_alloc_new _ _, Nat.le_refl _, Nat.zero_le _, rfl, rfl⟩⟩, Below.alloc1 _ _, rfl, fun p hp => by simp at hp, ⟨_, _, rfl⟩⟩
  have HST := hide hst
  clear hst
  obtain ⟨i0, hi, hz0, hz1, hz2⟩ := info_parts Try.infoF64
  go_enter Try.func5, Try.ntmps5
  go_wp2_with fail
  refine (big_any _ _ _ _).mono ?_
  rintro e w' ⟨rfl, rfl⟩
  go_wp2
  go_loopg [3, 4, 5, 6, 7] (y0 % 20).toNat (fun g av re im sm i wr => ∃ (k : Nat) (X : List Int), (k : Int) ≤ y0 % 20 ∧ g = (y0 % 20 - k).toNat ∧ i = .int .i64 k ∧ re = .int .i64 (reT X k) ∧ im = .int .i64 (imT X k) ∧ sm = .int .i64 (sqT X k) ∧ AmpW w.heap.size w wr k X av)
  case atStart => exact ⟨0, [], by omega, by simp, rfl, rfl, rfl, rfl, unhide HST⟩
  case round =>
    obtain ⟨k, X, hk, rfl, rfl, rfl, rfl, rfl, hS⟩ := hrel
    obtain ⟨gl, cl, rfl⟩ := hS.fv
    have hxo : xOk X := ⟨by have := hS.len; omega, hS.dr⟩
    have HS := hide hS
    have HWr := hide hS.below
    have HLEN := hide hS.len
    have hsz := hS.below.size
    clear hS HST
    go_wp2_with fail
    refine (unhide AT0 _ (unhide HWr)).mono ?_
    rintro e w1 ⟨rfl, hw1⟩
    have hw2 := hw1.symm
    subst hw2
    clear hw1
    by_cases hkc : (k : Int) < y0 % 20
    · have hk4 : k ≤ 18 := by omega
      have rb := re_bd hxo k
      have ib := im_bd hxo k
      have sb := sq_bd hxo k
      have HSN := hide fun x => sums_next (unhide HLEN) x
      have HPH := hide (ph_at k)
      clear hxo
      generalize reT X k = re at *
      generalize imT X k = im at *
      generalize sqT X k = sm at *
      obtain ⟨rb0, rb1⟩ := rb
      obtain ⟨ib0, ib1⟩ := ib
      obtain ⟨sb0, sb1⟩ := sb
      go_wp2_with fail
      refine (at_i _ nb w.heap.size _ _ ((unhide HB).below (unhide HWr) (Nat.le_refl _)) hn (by omega) (by omega)).mono ?_
      rintro e w1 ⟨y1, rfl, a10, a11, hw1⟩
      subst hw1
      obtain ⟨x, ex⟩ : ∃ x, x = y1 - 128 := ⟨_, rfl⟩
      obtain rfl : y1 = x + 128 := by omega
      clear ex
      have hq := sq_le (x := x) (by omega) (by omega)
      obtain ⟨xx, exx⟩ : ∃ z, z = x * x := ⟨_, rfl⟩
      rw [← exx] at hq
      have hwx : IntKind.i64.wrap (x * x) = xx := by rw [← exx, IntKind.wrap_i64]; omega
      have hxy : x + 128 - 128 = x := by omega
      have hxw : IntKind.i64.wrap (x + 128 - 128) = x := by rw [IntKind.wrap_i64]; omega
      obtain ⟨hq0, hq1⟩ := hq
      have EXX := hide exx
      clear exx
      obtain ⟨fx, efx⟩ : ∃ z, z = floatOfInt .f64 x := ⟨_, rfl⟩
      have H1 := hide (ownsRow_below (unhide HS).row (Below.alloc1 wr (.cells #[.float .f64 fx] 30)))
      have EFX := hide efx
      have hfx : floatOfInt .f64 x = fx := efx.symm
      clear efx
      have hm4 : k % 4 = 0 ∨ k % 4 = 1 ∨ k % 4 = 2 ∨ k % 4 = 3 := by omega
      rcases hm4 with h4 | h4 | h4 | h4
      · have h4i : (k : Int) % 4 = 0 := by omega
        have EPH := hide ((unhide HPH).1 h4)
        go_wp2_with (at_builtin; refine wpList_append_lies _ rfl _ _ 48 rfl w.heap.size 30 i0 _ 1 8 Try.underlying48 hi hz0 hz1 hz2 rfl (by decide) _ k _ rfl (unhide H1) ⟨wr.heap.size, 0, none⟩ 1 1 [.float .f64 fx] rfl rfl (cell_one_new _ _ _) (by simp [Value.oneCell']) (by omega) (by unfold maxLen; omega) (by omega) (by simp; omega) _ rfl ?_; intro g1 cap1 wa hown hgrow hat hlt; have HWa := hide (((unhide HWr).alloc (by omega) (.cells #[.float .f64 fx] 30)).grown hgrow (by simp; omega) (fun g hg => ((unhide HS).row.lt g hg).1)); have HOW := hide hown; clear hown hgrow hat H1)
        go_roundg (y0 % 20 - ((k + 1 : Nat) : Int)).toNat
        case measure => omega
        case rel =>
          obtain ⟨s1, s2, s3⟩ := unhide HSN x
          rw [unhide EPH] at s1 s2
          refine ⟨k + 1, X ++ [x], by omega, rfl, by go_num, ?_, ?_, ?_, ampW_next (unhide HS) x (by omega) (by omega) (by rw [← unhide EFX]; exact unhide HOW) (unhide HWa) ⟨_, _, rfl⟩⟩
          · rw [s1]; congr 1; dsimp only; omega
          · rw [s2]; congr 1; dsimp only; omega
          · rw [s3, ← unhide EXX]
      · have h4i : (k : Int) % 4 = 1 := by omega
        have EPH := hide ((unhide HPH).2.1 h4)
        go_wp2_with (at_builtin; refine wpList_append_lies _ rfl _ _ 48 rfl w.heap.size 30 i0 _ 1 8 Try.underlying48 hi hz0 hz1 hz2 rfl (by decide) _ k _ rfl (unhide H1) ⟨wr.heap.size, 0, none⟩ 1 1 [.float .f64 fx] rfl rfl (cell_one_new _ _ _) (by simp [Value.oneCell']) (by omega) (by unfold maxLen; omega) (by omega) (by simp; omega) _ rfl ?_; intro g1 cap1 wa hown hgrow hat hlt; have HWa := hide (((unhide HWr).alloc (by omega) (.cells #[.float .f64 fx] 30)).grown hgrow (by simp; omega) (fun g hg => ((unhide HS).row.lt g hg).1)); have HOW := hide hown; clear hown hgrow hat H1)
        go_roundg (y0 % 20 - ((k + 1 : Nat) : Int)).toNat
        case measure => omega
        case rel =>
          obtain ⟨s1, s2, s3⟩ := unhide HSN x
          rw [unhide EPH] at s1 s2
          refine ⟨k + 1, X ++ [x], by omega, rfl, by go_num, ?_, ?_, ?_, ampW_next (unhide HS) x (by omega) (by omega) (by rw [← unhide EFX]; exact unhide HOW) (unhide HWa) ⟨_, _, rfl⟩⟩
          · rw [s1]; congr 1; dsimp only; omega
          · rw [s2]; congr 1; dsimp only; omega
          · rw [s3, ← unhide EXX]
      · have h4i : (k : Int) % 4 = 2 := by omega
        have EPH := hide ((unhide HPH).2.2.1 h4)
        go_wp2_with (at_builtin; refine wpList_append_lies _ rfl _ _ 48 rfl w.heap.size 30 i0 _ 1 8 Try.underlying48 hi hz0 hz1 hz2 rfl (by decide) _ k _ rfl (unhide H1) ⟨wr.heap.size, 0, none⟩ 1 1 [.float .f64 fx] rfl rfl (cell_one_new _ _ _) (by simp [Value.oneCell']) (by omega) (by unfold maxLen; omega) (by omega) (by simp; omega) _ rfl ?_; intro g1 cap1 wa hown hgrow hat hlt; have HWa := hide (((unhide HWr).alloc (by omega) (.cells #[.float .f64 fx] 30)).grown hgrow (by simp; omega) (fun g hg => ((unhide HS).row.lt g hg).1)); have HOW := hide hown; clear hown hgrow hat H1)
        go_roundg (y0 % 20 - ((k + 1 : Nat) : Int)).toNat
        case measure => omega
        case rel =>
          obtain ⟨s1, s2, s3⟩ := unhide HSN x
          rw [unhide EPH] at s1 s2
          refine ⟨k + 1, X ++ [x], by omega, rfl, by go_num, ?_, ?_, ?_, ampW_next (unhide HS) x (by omega) (by omega) (by rw [← unhide EFX]; exact unhide HOW) (unhide HWa) ⟨_, _, rfl⟩⟩
          · rw [s1]; congr 1; dsimp only; omega
          · rw [s2]; congr 1; dsimp only; omega
          · rw [s3, ← unhide EXX]
      · have h4i : (k : Int) % 4 = 3 := by omega
        have EPH := hide ((unhide HPH).2.2.2 h4)
        go_wp2_with (at_builtin; refine wpList_append_lies _ rfl _ _ 48 rfl w.heap.size 30 i0 _ 1 8 Try.underlying48 hi hz0 hz1 hz2 rfl (by decide) _ k _ rfl (unhide H1) ⟨wr.heap.size, 0, none⟩ 1 1 [.float .f64 fx] rfl rfl (cell_one_new _ _ _) (by simp [Value.oneCell']) (by omega) (by unfold maxLen; omega) (by omega) (by simp; omega) _ rfl ?_; intro g1 cap1 wa hown hgrow hat hlt; have HWa := hide (((unhide HWr).alloc (by omega) (.cells #[.float .f64 fx] 30)).grown hgrow (by simp; omega) (fun g hg => ((unhide HS).row.lt g hg).1)); have HOW := hide hown; clear hown hgrow hat H1)
        go_roundg (y0 % 20 - ((k + 1 : Nat) : Int)).toNat
        case measure => omega
        case rel =>
          obtain ⟨s1, s2, s3⟩ := unhide HSN x
          rw [unhide EPH] at s1 s2
          refine ⟨k + 1, X ++ [x], by omega, rfl, by go_num, ?_, ?_, ?_, ampW_next (unhide HS) x (by omega) (by omega) (by rw [← unhide EFX]; exact unhide HOW) (unhide HWa) ⟨_, _, rfl⟩⟩
          · rw [s1]; congr 1; dsimp only; omega
          · rw [s2]; congr 1; dsimp only; omega
          · rw [s3, ← unhide EXX]
    · have hS := unhide HS
      have hxo : xOk X := ⟨by have := hS.len; omega, hS.dr⟩
      have hk19 : k ≤ 19 := by omega
      have hXl := hS.len
      obtain ⟨i1, i2, -, -⟩ := strip_isI hxo k (by omega)
      have e4 : stRe 0 one64 (flI X) = (stripTo 0 one64 ((flI X).take k)).sr := by rw [show (flI X).take k = flI X by rw [List.take_of_length_le (by rw [flI_length]; omega)]]; unfold stRe; rw [if_pos (by simp [stOk, flI_length]; omega)]
      have e5 : stIm 0 one64 (flI X) = (stripTo 0 one64 ((flI X).take k)).si := by rw [show (flI X).take k = flI X by rw [List.take_of_length_le (by rw [flI_length]; omega)]]; unfold stIm; rw [if_pos (by simp [stOk, flI_length]; omega)]
      have e6 : stOk (flI X) = true := by simp [stOk, flI_length]; omega
      have HST := hide (implStrip_any _ (flI X) 0 one64 wr (ownsRow_flIn hS.row (by rw [flI_length, hXl])))
      rw [e4, e5, e6] at HST
      unfold vW at HST
      have I1 := hide i1
      have I2 := hide i2
      have rb := re_bd hxo k
      have ib := im_bd hxo k
      have sb := sq_bd hxo k
      have HXO := hide hxo
      have HXL := hide hXl
      clear i1 i2 e4 e5 e6 hxo hS hXl
      obtain ⟨sm, esm⟩ : ∃ z, z = sqT X k := ⟨_, rfl⟩
      rw [← esm] at sb ⊢
      have ESM := hide esm
      clear esm
      generalize reT X k = re at *
      generalize imT X k = im at *
      obtain ⟨rb0, rb1⟩ := rb
      obtain ⟨ib0, ib1⟩ := ib
      obtain ⟨sb0, sb1⟩ := sb
      generalize (stripTo 0 one64 ((flI X).take k)).sr = sr at *
      generalize (stripTo 0 one64 ((flI X).take k)).si = si at *
      go_wp2_with fail
      refine (unhide HST).mono ?_
      rintro e w2 ⟨r, s, rfl, hr, hs, hb⟩
      obtain rfl := (unhide I1).same hr
      obtain rfl := (unhide I2).same hs
      have o1 : FloatKind.f64.format.order r (floatOfInt .f64 re) = some .eq := by rw [(unhide I1).order (isI_int .f64 re (by omega))]; simp
      have o2 : FloatKind.f64.format.order s (floatOfInt .f64 im) = some .eq := by rw [(unhide I2).order (isI_int .f64 im (by omega))]; simp
      have HA : Hid (AmpW w.heap.size w (w2.alloc (.cells #[.float .f64 r, .float .f64 s] 32)) k X (.slice (some ⟨gl, 0, none⟩) k cl)) :=
        ⟨ownsRow_below (ownsRow_below (unhide HS).row hb) (Below.alloc1 _ _), Below.step (Below.step (unhide HWr) hb) (Below.alloc1 _ _), (unhide HS).len, (unhide HS).dr, ⟨_, _, rfl⟩⟩
      have hzb := hb.size
      clear hb HST HS HWr I1 I2
      have HR0 := hide (rows3_new (unhide HA))
      simp only [World.size_alloc] at HR0
      clear HA
      have hzw2 : w.heap.size ≤ w2.heap.size := by omega
      clear hsz hzb hr hs hxo
      obtain ⟨i1, hj, hy0, hy1, hy2⟩ := info_parts Try.infoWave
      go_wp2
      go_loopg [11, 12, 13] k (fun g lv hv i wq => ∃ j : Nat, j ≤ k ∧ g = k - j ∧ i = .int .i64 j ∧ Rows3 w wq k j j X (.slice (some ⟨gl, 0, none⟩) k cl) lv hv)
      case atStart => exact ⟨0, Nat.zero_le _, rfl, rfl, unhide HR0⟩
      case round =>
        obtain ⟨j, hjk', rfl, rfl, hR⟩ := hrel
        obtain ⟨g2, c2, rfl⟩ := hR.fl
        obtain ⟨g3, c3, rfl⟩ := hR.fh
        have HR := hide hR
        have hszq := hR.below.size
        clear hR HR0
        by_cases hjk : j < k
        · have hjX : j < X.length := by rw [unhide HXL]; exact hjk
          obtain ⟨fj, efj⟩ : ∃ z, z = (flI X).getD j 0 := ⟨_, rfl⟩
          have cj := (unhide HR).a.cells (g := gl) rfl j (.float .f64 fj) (by rw [efj]; exact fls_get _ (by rw [flI_length]; exact hjX))
          rw [Go.WideShapes.add_plain, Nat.zero_add] at cj
          have EFJ := hide efj
          have HJX := hide hjX
          clear efj hjX
          have H1 := hide ((unhide HR).step (Below.alloc1 wr (.cells #[.float .f64 0, .float .f64 fj] 32)))
          have hji : (j : Int) < k := by omega
          go_wp2_with (first | (at_builtin; refine wpList_append_lies _ rfl _ _ 42 rfl w.heap.size 32 i1 _ 2 16 Try.underlying42 hj hy0 hy1 hy2 rfl (by decide) _ j _ rfl (unhide H1).l ⟨wr.heap.size, 0, none⟩ 1 1 [.float .f64 0, .float .f64 fj] rfl rfl (cell_two_new _ _ _ _) (by simp [Value.oneCell']) (by omega) (by unfold maxLen; omega) (by omega) (by simp; omega) _ rfl ?_; intro g4 cap4 wa hown hgrow hat hlt; have H2 := hide ((unhide H1).grow_l (unhide HJX) (unhide EFJ) hown hgrow hat ((unhide H1).below.grown hgrow (by simp; omega) (fun g hg => ((unhide H1).l.lt g hg).1))); have hza := (unhide H2).below.size; have H3 := hide ((unhide H2).step (Below.alloc1 wa (.cells #[.float .f64 4611686018427387904] 30))); clear hown hgrow hat H1 H2) | (at_builtin; refine wpList_append_lies _ rfl _ _ 48 rfl w.heap.size 30 i0 _ 1 8 Try.underlying48 hi hz0 hz1 hz2 rfl (by decide) _ j _ rfl (unhide H3).h ⟨wa.heap.size, 0, none⟩ 1 1 [.float .f64 4611686018427387904] rfl rfl (cell_one_new _ _ _) (by simp [Value.oneCell']) (by omega) (by unfold maxLen; omega) (by omega) (by simp; omega) _ rfl ?_; intro g5 cap5 wb hown hgrow hat hlt'; have H4 := hide ((unhide H3).grow_h hown hgrow hat ((unhide H3).below.grown hgrow (by simp; omega) (fun g hg => ((unhide H3).h.lt g hg).1))); clear hown hgrow hat H3))
          go_roundg (k - (j + 1))
          case measure => omega
          case rel => exact ⟨j + 1, by omega, rfl, by go_num, unhide H4⟩
        · have hjj : j = k := by omega
          subst hjj
          have hji : (j : Int) ≤ j := by omega
          have HEN := hide (energyOf_ok (unhide HXO))
          have HEI := hide (energy_isI (unhide HXO) X.length (Nat.le_refl _))
          have HENO := hide (energy_no (X := X) one64)
          have HRL : Hid ((repI X).take j = repI X) := by show _ = _; rw [List.take_of_length_le (by simp [repI]; have := unhide HXL; omega)]
          have HRLl : Hid ((repI X).length = j) := by show _ = _; have := unhide HXL; simp [repI]; omega
          have hT := (unhide HR).l
          rw [unhide HRL] at hT
          have HL := hide hT
          clear hT
          have HE1 := hide (implEnergy_any _ _ (repI X) (twos j) half64 wr (ownsRow_rw (unhide HL) (unhide HRLl)) (ownsRow_flIn (unhide HR).h (by simp [twos])))
          rw [unhide HXL] at HEN HEI HENO
          rw [(unhide HEN).1, (unhide HEN).2] at HE1
          rw [← unhide ESM] at HEI
          generalize enTo (repI X) (twos j) half64 j = eo at *
          go_wp2_with fail
          refine (unhide HE1).mono ?_
          rintro e w3 ⟨re', rfl, hre, hb⟩
          obtain rfl := (unhide HEI).same hre
          have o3 : FloatKind.f64.format.order re' (floatOfInt .f64 sm) = some .eq := by rw [(unhide HEI).order (isI_int .f64 sm (by omega))]; simp
          have H6 := hide (((unhide HR).step hb).step (Below.alloc1 w3 (.cells #[.float .f64 4607182418800017408] 30)))
          have HL6 := hide (ownsRow_below (ownsRow_below (unhide HL) hb) (Below.alloc1 w3 (.cells #[.float .f64 4607182418800017408] 30)))
          have hz3 := hb.size
          clear hb hre HE1 HL HR HEN HEI
          go_wp2_with (at_builtin; refine wpList_append_lies _ rfl _ _ 48 rfl w.heap.size 30 i0 _ 1 8 Try.underlying48 hi hz0 hz1 hz2 rfl (by decide) _ j _ rfl (unhide H6).h ⟨w3.heap.size, 0, none⟩ 1 1 [.float .f64 4607182418800017408] rfl rfl (cell_one_new _ _ _) (by simp [Value.oneCell']) (by omega) (by unfold maxLen; omega) (by omega) (by simp; omega) _ rfl ?_; intro g6 cap6 wc hown hgrow hat hlt; have HL7 := hide (keep_row (unhide HL6) hgrow (ne_flip (unhide H6).lh)); have HW7 := hide ((unhide H6).below.grown hgrow (by simp; omega) (fun g hg => ((unhide H6).h.lt g hg).1)); have HH7 := hide hown; clear hown hgrow hat H6 HL6)
          have HE2 := hide (implEnergy_any _ _ (repI X) (twos j ++ [one64]) one64 wc (ownsRow_rw (unhide HL7) (unhide HRLl)) (ownsRow_flIn (xs := twos j ++ [one64]) (by rw [fls_snoc]; exact unhide HH7) (by simp [twos])))
          rw [unhide HENO] at HE2
          have elen : (twos j ++ [one64]).length = j + 1 := by simp [twos]
          refine (unhide HE2).mono ?_
          rintro e w4 ⟨r4, rfl, _, hb⟩
          have HW8 := hide (Below.step (unhide HW7) hb)
          clear hb HE2 HL7 HH7 HW7
          go_wp2
          go_ret
          exact ⟨rfl, unhide HW8⟩

end Go.Proofs.Yteohkabenbaaaaa
