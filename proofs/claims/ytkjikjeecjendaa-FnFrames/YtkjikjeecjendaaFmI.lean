/- Frames: the specification's PackReport. Written by wip/mkfm3.py. -/
import Derived.Test.YtkjikjeecjendaaFmH
import Derived.Test.YtkjikjeecjendaaAppK
namespace Go.Proofs.Ytkjikjeecjendaa
open Go.RowKit

theorem ownsRow_lit (w : World) (c : Array Value) (e : TypeId) (n : Nat) (hn : c.size = n) (hm : n ≤ maxLen) : (w.alloc (.cells c e)).ownsRow w.heap.size e 1 (.slice (some ⟨w.heap.size, 0, none⟩) n n) n c.toList := by
  subst hn
  exact ⟨by simp, Or.inr ⟨w.heap.size, c.size, c, rfl, Nat.le_refl _, Go.Deep.blk_alloc_new _ _, Nat.le_refl _, hm, by simp, by rw [Nat.mul_one, ← Array.length_toList, List.take_length]⟩⟩
def pack14 (k i x y s n : Int) : List Byte := [toB k, toB (i / 16777216), toB (i / 65536), toB (i / 256), toB i, toB (x / 65536), toB (x / 256), toB x, toB (y / 65536), toB (y / 256), toB y, toB s, toB n, 0]
theorem packed14 (k i x y s n : Int) : packed k i x y s n = pack14 k i x y s n ++ [toB ((crcL (pack14 k i x y s n) : Nat) / 256 : Int), toB (crcL (pack14 k i x y s n) : Nat)] := rfl
theorem toB_lo (x d : Int) (h : d = 1 ∨ d = 256 ∨ d = 65536) : eB (toB (x / d)) = .int .u8 ((x % 16777216 / d) % 256) := by
  rw [eB_toB]
  congr 1
  rcases h with rfl | rfl | rfl <;> omega
theorem bb_one (a b : Int) : ∀ u ∈ ([.int .u8 a, .int .u8 b] : List Value), u.oneCell' = true := by simp [Value.oneCell']
theorem bb_cell (w : World) (a b : Int) (t : TypeId) : ∀ j u, ([.int .u8 a, .int .u8 b] : List Value)[j]? = some u → (w.alloc (.cells #[.int .u8 a, .int .u8 b] t)).cell? ((⟨w.heap.size, 0, none⟩ : Addr).add j) = some u := by
  intro j u hj
  match j, hj with
  | 0, hj => simp at hj; simp [Addr.add, hj]
  | 1, hj => simp at hj; simp [Addr.add, hj]
  | j + 2, hj => simp at hj

set_option maxRecDepth 10000 in
set_option maxHeartbeats 1600000 in
theorem specPackReport_any (k i x y s n : Int) (w : World) :
    Calls Try.prog 29 #[vReport k i x y s n] w fun e w' => ∃ a m cp, e = .returned (.tuple #[.slice a m cp, .bool (repB k i x y s n)]) ∧ OwnBy w.heap.size w' (.slice a m cp) (packF k i x y s n) ∧ Below w.heap.size w w' := by
  have HB := hide (Below.alloc1 w (.cells #[.int .i64 k, .int .i64 i, .int .i64 x, .int .i64 y, .int .i64 s, .int .i64 n] 25))
  have HO := hide (ownV_alloc w #[.int .i64 k, .int .i64 i, .int .i64 x, .int .i64 y, .int .i64 s, .int .i64 n] 25)
  have HS := hide fun W => specReportOk_any k i x y s n W
  have HN : Hid (packF k i x y s n = if repB k i x y s n then packed k i x y s n else []) := rfl
  have HPK := hide (packed14 k i x y s n)
  have HPL := hide (packed_len k i x y s n)
  have HF : Hid ((pack14 k i x y s n).map eB = [.int .u8 ((k) % 256), .int .u8 ((i / 16777216) % 256), .int .u8 ((i / 65536) % 256), .int .u8 ((i / 256) % 256), .int .u8 ((i) % 256), .int .u8 (((x % 16777216) / 65536) % 256), .int .u8 (((x % 16777216) / 256) % 256), .int .u8 (((x % 16777216)) % 256), .int .u8 (((y % 16777216) / 65536) % 256), .int .u8 (((y % 16777216) / 256) % 256), .int .u8 (((y % 16777216)) % 256), .int .u8 ((s) % 256), .int .u8 ((n) % 256), .int .u8 0]) := by
    show _ = _
    unfold pack14
    simp only [List.map_cons, List.map_nil]
    have hx := toB_lo x 1 (by omega)
    have hy := toB_lo y 1 (by omega)
    rw [Int.ediv_one, Int.ediv_one] at hx hy
    rw [hx, hy, toB_lo x 256 (by omega), toB_lo x 65536 (by omega), toB_lo y 256 (by omega), toB_lo y 65536 (by omega), eB_toB, eB_toB, eB_toB, eB_toB, eB_toB, eB_toB, eB_toB]
    rfl
  have hF14 : (pack14 k i x y s n).length = 14 := rfl
  generalize packF k i x y s n = pf at *
  generalize packed k i x y s n = pk at *
  generalize pack14 k i x y s n = F at *
  have hmx := i64_mask24 x
  have hmy := i64_mask24 y
  generalize x % 16777216 = xm at *
  generalize y % 16777216 = ym at *
  have hw0 := wrap_byte (k)
  have hw1 := wrap_byte (i / 16777216)
  have hw2 := wrap_byte (i / 65536)
  have hw3 := wrap_byte (i / 256)
  have hw4 := wrap_byte (i)
  have hw5 := wrap_byte (xm / 65536)
  have hw6 := wrap_byte (xm / 256)
  have hw7 := wrap_byte (xm)
  have hw8 := wrap_byte (ym / 65536)
  have hw9 := wrap_byte (ym / 256)
  have hw10 := wrap_byte (ym)
  have hw11 := wrap_byte (s)
  have hw12 := wrap_byte (n)
  generalize (k) % 256 = c0 at *
  generalize (i / 16777216) % 256 = c1 at *
  generalize (i / 65536) % 256 = c2 at *
  generalize (i / 256) % 256 = c3 at *
  generalize (i) % 256 = c4 at *
  generalize (xm / 65536) % 256 = c5 at *
  generalize (xm / 256) % 256 = c6 at *
  generalize (xm) % 256 = c7 at *
  generalize (ym / 65536) % 256 = c8 at *
  generalize (ym / 256) % 256 = c9 at *
  generalize (ym) % 256 = c10 at *
  generalize (s) % 256 = c11 at *
  generalize (n) % 256 = c12 at *
  unfold vReport at HS ⊢
  go_enter Try.func29, Try.ntmps29
  go_wp2_with fail
  refine (unhide HS _).mono ?_
  rintro e w1 ⟨rfl, hb⟩
  replace HB := hide (Below.step (unhide HB) hb)
  replace HO := hide ((unhide HO).step hb)
  clear hb HS
  cases hr : repB k i x y s n
  · rw [hr] at HN
    go_wp2
    refine bodyPost_ret (v := .tuple #[.slice (some ⟨w1.heap.size, 0, none⟩) 0 0, .bool false]) (by simp [results, Try.results29, go_sem]) rfl ⟨_, 0, 0, by rw [hr], ?_, Below.step (unhide HB) (Below.alloc1 _ _)⟩
    rw [unhide HN]
    exact ⟨_, 0, rfl, Nat.le_refl _, Nat.zero_le _, fun h => absurd rfl h⟩
  rw [hr, if_pos rfl] at HN
  have d0 := (unhide HO).cell (i := 0) rfl
  have d1 := (unhide HO).cell (i := 1) rfl
  have d2 := (unhide HO).cell (i := 2) rfl
  have d3 := (unhide HO).cell (i := 3) rfl
  have d4 := (unhide HO).cell (i := 4) rfl
  have d5 := (unhide HO).cell (i := 5) rfl
  go_wp2
  go_quiet (fail)
  clear d0 d1 d2 d3 d4 d5
  have hbd := below_drewN (Below.refl w1.heap.size w1) nq
  replace HB := hide (Below.step (unhide HB) hbd)
  replace HO := hide ((unhide HO).step hbd)
  generalize w1.drewN nq = w2 at *
  clear hbd hmx hmy
  have d0 := (unhide HO).cell (i := 0) rfl
  have d1 := (unhide HO).cell (i := 1) rfl
  have d2 := (unhide HO).cell (i := 2) rfl
  have d3 := (unhide HO).cell (i := 3) rfl
  have d4 := (unhide HO).cell (i := 4) rfl
  have d5 := (unhide HO).cell (i := 5) rfl
  have hlt := (unhide HO).lt
  have hO2 := ownV_alloc w2 #[.int .u8 c0, .int .u8 c1, .int .u8 c2, .int .u8 c3, .int .u8 c4, .int .u8 c5, .int .u8 c6, .int .u8 c7, .int .u8 c8, .int .u8 c9, .int .u8 c10, .int .u8 c11, .int .u8 c12, .int .u8 0] 5
  have hR2 := ownsRow_lit w2 #[.int .u8 c0, .int .u8 c1, .int .u8 c2, .int .u8 c3, .int .u8 c4, .int .u8 c5, .int .u8 c6, .int .u8 c7, .int .u8 c8, .int .u8 c9, .int .u8 c10, .int .u8 c11, .int .u8 c12, .int .u8 0] 5 14 rfl (by unfold maxLen; omega)
  rw [show (#[.int .u8 c0, .int .u8 c1, .int .u8 c2, .int .u8 c3, .int .u8 c4, .int .u8 c5, .int .u8 c6, .int .u8 c7, .int .u8 c8, .int .u8 c9, .int .u8 c10, .int .u8 c11, .int .u8 c12, .int .u8 0] : Array Value).toList = F.map eB from (unhide HF).symm] at hO2 hR2
  have hA := Below.alloc1 w2 (.cells #[.int .u8 c0, .int .u8 c1, .int .u8 c2, .int .u8 c3, .int .u8 c4, .int .u8 c5, .int .u8 c6, .int .u8 c7, .int .u8 c8, .int .u8 c9, .int .u8 c10, .int .u8 c11, .int .u8 c12, .int .u8 0] 5)
  have hBy : ByIn (w2.alloc (.cells #[.int .u8 c0, .int .u8 c1, .int .u8 c2, .int .u8 c3, .int .u8 c4, .int .u8 c5, .int .u8 c6, .int .u8 c7, .int .u8 c8, .int .u8 c9, .int .u8 c10, .int .u8 c11, .int .u8 c12, .int .u8 0] 5)) (.slice (some ⟨w2.heap.size, 0, none⟩) 14 14) F := by
    have := OwnV.cIn (cap := 14) hO2 (by omega) (by unfold maxLen; omega)
    rw [hF14] at this
    exact this
  have PC := hide (l9Check_any _ _ _ F _ hBy (by omega))
  rw [List.take_of_length_le (by omega)] at PC
  have HR2 := hide hR2
  have HB2 := hide (Below.step (unhide HB) hA)
  have hsz2 : w.heap.size ≤ w2.heap.size := by omega
  clear hO2 hR2 hA hBy
  have hcl := crcL_lt F
  have hb1 := wrap_byte ((crcL F : Nat) / 256 : Int)
  have hb2 := wrap_byte (crcL F : Nat)
  have eb1 := eB_toB ((crcL F : Nat) / 256 : Int)
  have eb2 := eB_toB (crcL F : Nat)
  generalize toB ((crcL F : Nat) / 256 : Int) = t1 at *
  generalize toB (crcL F : Nat) = t2 at *
  generalize crcL F = cc at *
  generalize ((cc : Nat) / 256 : Int) % 256 = z1 at *
  generalize ((cc : Nat) : Int) % 256 = z2 at *
  have HE : Hid ([.int .u8 z1, .int .u8 z2] = ([t1, t2] : List Byte).map eB) := by show _ = _; simp [eb1, eb2]
  clear eb1 eb2
  go_wp2_with fail
  refine (unhide PC).mono ?_
  rintro e w3 ⟨rfl, h9⟩
  rw [← h9] at HR2 HB2
  have hsz3 : w2.heap.size < w3.heap.size := by rw [h9]; simp
  clear h9 PC d0 d1 d2 d3 d4 d5 HF HO
  clear hw0
  clear hw1
  clear hw2
  clear hw3
  clear hw4
  clear hw5
  clear hw6
  clear hw7
  clear hw8
  clear hw9
  clear hw10
  clear hw11
  clear hw12
  obtain ⟨i0, hi, hzz⟩ := Option.map_eq_some_iff.1 Try.infoU8
  simp only [Prod.mk.injEq] at hzz
  obtain ⟨hz0, hz1, hz2⟩ := hzz
  have HR3 := hide (ownsRow_below (unhide HR2) (Below.alloc1 w3 (.cells #[.int .u8 z1, .int .u8 z2] 5)))
  go_wp2_with (at_builtin; refine wpList_append_lies _ rfl _ _ 22 rfl w2.heap.size 5 i0 _ 1 1 Try.underlying22 hi hz0 hz1 hz2 rfl (by decide) _ 14 _ rfl (unhide HR3) ⟨w3.heap.size, 0, none⟩ 2 2 [.int .u8 z1, .int .u8 z2] rfl rfl (bb_cell _ _ _ _) (bb_one _ _) (by omega) (by unfold maxLen; omega) (by omega) (by simp; omega) _ rfl ?_; intro g4 cap4 wa hown hgrow hat hlt4; have HWa := hide ((((Below.refl w2.heap.size w3)).alloc (by omega) (.cells #[.int .u8 z1, .int .u8 z2] 5)).grown hgrow (by simp; omega) (fun g hg => ((unhide HR2).lt g hg).1)); have HOW := hide hown; clear hown hgrow hat)
  refine bodyPost_ret (v := .tuple #[.slice (some ⟨g4, 0, none⟩) 16 cap4, .bool true]) (by simp [results, Try.results29, go_sem]) rfl ⟨some ⟨g4, 0, none⟩, 16, cap4, by rw [hr], ?_, (unhide HB2).trans ((unhide HWa).mono hsz2)⟩
  rw [unhide HN, unhide HPK]
  have hown := unhide HOW
  rw [unhide HE, ← List.map_append] at hown
  exact (ownsRow_ownC hown (by simp [hF14])).mono hsz2

end Go.Proofs.Ytkjikjeecjendaa
