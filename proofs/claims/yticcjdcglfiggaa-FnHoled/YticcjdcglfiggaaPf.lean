/- Laid together out of: DrawH2, DrawH3, AtBig, HoA, LawFnHoled, OpenBytes. -/
import Derived.Test.YticcjdcglfiggaaPe
import Derived.Deep.RegionHeld3
import Derived.Test.YticcjdcglfiggaaPa
import Derived.Deep.RegionWith
import Derived.ProofKit
import Derived.OpenShut
import Derived.ShutString
import Derived.ChangeOld
import Derived.Below

/- The specification's l1DrawHull: whatever the bytes, it makes a right hull. -/
namespace Go.Proofs.Yticcjdcglfiggaa
open Go.RowKit

/-- Rows of one length, all of their numbers in 0 .. 50. -/
def Even (wd : Nat) (R : List (List Int)) : Prop := ∀ r, r < R.length → (R.getD r []).length = wd ∧ ((R.getD r []).all fun x => inB x 0 50) = true

theorem Even.push {wd : Nat} {R : List (List Int)} {row : List Int} (h : Even wd R) (h1 : row.length = wd) (h2 : (row.all fun x => inB x 0 50) = true) : Even wd (R ++ [row]) := fun r hr => by
  rw [getD_snoc]
  by_cases hlt : r < R.length
  · rw [if_pos hlt]; exact h r hlt
  · rw [if_neg hlt, if_pos (by simp at hr; omega)]; exact ⟨h1, h2⟩

/-- What is told of a drawn hull. -/
def drawnHull (step rise : Int) (R : List (List Int)) : Prop := hullOk step rise R = true ∧ step ≤ 12 ∧ rise ≤ 5

theorem even_ok {step rise : Int} {wd : Nat} {R : List (List Int)} (h : Even wd R) (h1 : 1 ≤ step) (h2 : step ≤ 100) (h3 : 1 ≤ rise) (h4 : rise ≤ 20) (h5 : 2 ≤ R.length) (h6 : R.length ≤ 12) (h7 : 2 ≤ wd) (h8 : wd ≤ 10) : hullOk step rise R = true := by
  refine hullOk_mk (inB_mk h1 h2) (inB_mk h3 h4) (inB_mk (by omega) (by omega)) (fun r hr => ?_)
  rw [(h 0 (by omega)).1]
  exact rowOk_mk (h r hr).1 (inB_mk (by omega) (by omega)) (h r hr).2

theorem all_snoc {xs : List Int} {x : Int} (h : (xs.all fun x => inB x 0 50) = true) (h0 : 0 ≤ x) (h1 : x ≤ 50) : ((xs ++ [x]).all fun x => inB x 0 50) = true := by
  rw [List.all_append, h]
  simp [inB_mk h0 h1]

theorem ints_snoc (xs : List Int) (x : Int) : ints (xs ++ [x]) = ints xs ++ [.int .i64 x] := by simp [ints]

/-- What holds at the head of the outer loop. -/
structure DrawSt (w wr : World) (cb nb M : Nat) (v : Value) (step rise : Int) (ov : Value) (R : List (List Int)) : Prop where
  res : OwnV wr w.heap.size [.int .i64 0, .int .i64 0, .slice none 0 0]
  box : OwnV wr M [.int .i64 step, .int .i64 rise, ov]
  grow : Grow 31 (M + 1) wr ov R
  cur : Cur wr cb v nb
  kept : Kept (fun b => b = cb) w wr
  lt1 : cb < w.heap.size
  lt2 : w.heap.size < M

theorem DrawSt.next {w wr w' : World} {cb nb M : Nat} {v : Value} {step rise : Int} {ov : Value} {R : List (List Int)} (h : DrawSt w wr cb nb M v step rise ov R) (hk : Kept (fun b => b = cb) wr w') (hc : Cur w' cb v nb) : DrawSt w w' cb nb M v step rise ov R :=
  ⟨h.res.kept hk (by have := h.lt1; omega), h.box.kept hk (by have := h.lt1; have := h.lt2; omega), h.grow.kept hk (fun g hg _ e => by have := h.lt1; have := h.lt2; omega), hc, h.kept.trans hk, h.lt1, h.lt2⟩

theorem DrawSt.far {w wr : World} {cb nb M : Nat} {v : Value} {step rise : Int} {ov : Value} {R : List (List Int)} (h : DrawSt w wr cb nb M v step rise ov R) : cb < wr.heap.size ∧ M < wr.heap.size := ⟨h.cur.lt, h.box.lt⟩

/-- The round's end: the row is laid behind the others. -/
theorem DrawSt.push {w wo wi w2 : World} {cb nb M : Nat} {v : Value} {step rise : Int} {ao : Option Addr} {cap : Nat} {R : List (List Int)} {row : List Int} {g rcap g' cap' : Nat} {vals : List Value} {o : Obj}
    (h : DrawSt w wo cb nb M v step rise (.slice ao R.length cap) R)
    (hk : Kept (fun b => b = cb ∨ wo.heap.size ≤ b) wo wi) (hc : Cur wi cb v nb)
    (hr : ∀ r, r < R.length → ∃ g cap', vals[r]? = some (.slice (some ⟨g, 0, none⟩) (R.getD r []).length cap') ∧ (R.getD r []).length ≤ cap' ∧ cap' ≤ maxLen ∧ OwnV wi g (ints (R.getD r [])) ∧ M + 1 ≤ g ∧ (Value.slice ao R.length cap).ownBlock ≠ some g)
    (hvl : vals.length = R.length) (ho : OwnV wi g (ints row)) (hg : wo.heap.size ≤ g) (hc1 : row.length ≤ rcap) (hc2 : rcap ≤ maxLen)
    (hne : (Value.slice ao R.length cap).ownBlock ≠ some g) (hbl : ∀ k, (Value.slice ao R.length cap).ownBlock = some k → M + 1 ≤ k)
    (hown : w2.ownsRow (M + 1) 31 1 (.slice (some ⟨g', 0, none⟩) (R.length + 1) cap') (R.length + 1) (vals ++ [.slice (some ⟨g, 0, none⟩) row.length rcap])) (hgrow : (wi.alloc o).grownBy w2 (Value.slice ao R.length cap).ownBlock)
    (hat : (Value.slice ao R.length cap).ownBlock = some g' ∨ g' = wi.heap.size + 1) :
    DrawSt w (w2.setCell ⟨M, 2, none⟩ (.slice (some ⟨g', 0, none⟩) (R.length + 1) cap')) cb nb M v step rise (.slice (some ⟨g', 0, none⟩) (R.length + 1) cap') (R ++ [row]) := by
  have hf := h.far
  have l1 := h.lt1
  have l2 := h.lt2
  have K2 : Kept (fun b => M + 1 ≤ b) wi w2 := ((Kept.refl _ wi).alloc o).grown hgrow hbl
  have K3 : Kept (fun b => M ≤ b) wi (w2.setCell ⟨M, 2, none⟩ (.slice (some ⟨g', 0, none⟩) (R.length + 1) cap')) := Kept.setCell (T := fun b => M ≤ b) (p := ⟨M, 2, none⟩) (K2.mono (fun _ _ h => Nat.le_of_succ_le h)) (Nat.le_refl _) _
  have G2 := Grow.push hr hvl (Below.alloc1 wi o) ho (by omega) hne hc1 hc2 (by omega) hown hgrow hat
  refine ⟨(h.res.kept hk (by omega)).kept K3 (by omega), ((h.box.kept hk (by omega)).kept K2 (by omega)).set 2 _ (by simp), ?_, hc.kept K3 (fun b hb => by omega), ?_, l1, l2⟩
  · exact G2.kept ((Kept.refl (fun b => b = M) w2).setCell (p := ⟨M, 2, none⟩) rfl _) (fun x hx _ e => by omega)
  · have T1 : Kept (fun b => b = cb ∨ w.heap.size ≤ b) w wi := (h.kept.mono (fun _ _ e => Or.inl e)).trans (hk.mono (fun _ _ e => e.imp id (fun e => by have := h.kept.size; omega)))
    have T2 := T1.trans (K3.mono (fun _ _ e => Or.inr (by omega)))
    exact T2.mono (fun k hk e => by rcases e with e | e <;> omega)

theorem DrawSt.out (w : World) (N : Nat) (x y z : Value) : Kept (fun b => b = N) w (((w.setCell ⟨N, 0, none⟩ x).setCell ⟨N, 1, none⟩ y).setCell ⟨N, 2, none⟩ z) :=
  (((Kept.refl (fun b => b = N) w).setCell (p := ⟨N, 0, none⟩) rfl _).setCell (p := ⟨N, 1, none⟩) rfl _).setCell (p := ⟨N, 2, none⟩) rfl _

set_option maxHeartbeats 6400000 in
theorem l1DrawHull_any (cb nb : Nat) (v : Value) (w : World) (h : Cur w cb v nb) (hn : nb ≤ 1048576) :
    Calls Try.prog 49 #[.pointer (some ⟨cb, 0, none⟩)] w fun e w' => ∃ step rise R ao n cap, e = .returned (hullV step rise (.slice ao n cap)) ∧ Grow 31 w.heap.size w' (.slice ao n cap) R ∧ drawnHull step rise R ∧ Cur w' cb v nb ∧ Kept (fun b => b = cb) w w' := by
  have hlt := h.lt
  have A1 := Below.alloc1 w (.cells #[.int .i64 0, .int .i64 0, .slice none 0 0] 26)
  have O1 : OwnV (w.alloc (.cells #[.int .i64 0, .int .i64 0, .slice none 0 0] 26)) w.heap.size [.int .i64 0, .int .i64 0, .slice none 0 0] := ⟨_, _, Go.Deep.blk_alloc_new _ _, fun i _ => by simp⟩
  have H1 := hide (l1Below_any cb nb v 12 _ (h.below A1) hn (by omega) (by omega))
  have HK1 : Hid (Kept (fun b => b = cb) w (w.alloc (.cells #[.int .i64 0, .int .i64 0, .slice none 0 0] 26))) := kept_of_below A1
  have HO1 := hide O1
  clear h A1 O1
  go_enter Try.func49, Try.ntmps49
  go_wp2_with fail
  refine (unhide H1).mono ?_
  rintro e w2 ⟨a, rfl, ha0, ha1, hc, hk⟩
  have HC2 := hide hc
  have HK2 := hide ((unhide HK1).trans hk)
  have HO2 := hide ((unhide HO1).kept hk (by omega))
  clear hc hk H1 HK1 HO1
  go_wp2_with fail
  refine (l1Below_any cb nb v 5 w2 (unhide HC2) hn (by omega) (by omega)).mono ?_
  rintro e w3 ⟨b, rfl, hb0, hb1, hc, hk⟩
  have hz3 : w.heap.size < w3.heap.size := ((unhide HO2).kept hk (by omega)).lt
  have A4 := Below.alloc1 w3 (.cells #[.int .i64 (1 + a), .int .i64 (1 + b), .slice none 0 0] 26)
  have D4 : DrawSt w (w3.alloc (.cells #[.int .i64 (1 + a), .int .i64 (1 + b), .slice none 0 0] 26)) cb nb w3.heap.size v (1 + a) (1 + b) (.slice none 0 0) [] :=
    ⟨((unhide HO2).kept hk (by omega)).below A4 hz3, ⟨_, _, Go.Deep.blk_alloc_new _ _, fun i _ => by simp⟩, Grow.start _ _ _, hc.below A4, ((unhide HK2).trans hk).alloc _, hlt, hz3⟩
  have HD4 := hide D4
  have H5 := hide (l1Below_any cb nb v 6 _ D4.cur hn (by omega) (by omega))
  clear hc hk A4 D4 HC2 HK2 HO2
  go_wp2_with fail
  refine (unhide H5).mono ?_
  rintro e w5 ⟨p, rfl, hp0, hp1, hc, hk⟩
  have HD5 := hide ((unhide HD4).next hk hc)
  clear hc hk H5 HD4
  go_wp2_with fail
  refine (l1Below_any cb nb v 6 w5 (unhide HD5).cur hn (by omega) (by omega)).mono ?_
  rintro e w6 ⟨q, rfl, hq0, hq1, hc, hk⟩
  have HD6 := hide ((unhide HD5).next hk hc)
  clear hc hk HD5
  go_wp2_with fail
  refine (l1Once_any cb nb v 20 w6 (unhide HD6).cur hn (by omega) (by omega)).mono ?_
  rintro e w7 ⟨o, rfl, hc, hk⟩
  have HD7 := hide ((unhide HD6).next hk hc)
  clear hc hk HD6
  cases o with
  | false =>
    go_wp2
    go_loopg [6] 12 (fun g sv wr => ∃ k : Nat, ∃ R ov, (k : Int) ≤ 2 + p ∧ g = 12 - k ∧ sv = .int .i64 k ∧ R.length = k ∧ Even (2 + q).toNat R ∧ DrawSt w wr cb nb w3.heap.size v (1 + a) (1 + b) ov R)
    case atStart => exact ⟨0, [], _, by omega, rfl, rfl, rfl, fun r hr => by simp at hr, unhide HD7⟩
    case round =>
      obtain ⟨k, R, ov, hkN, rfl, rfl, hRk, hE, hD⟩ := hrel
      have HD := hide hD
      have HE := hide hE
      have HRK := hide hRk
      clear hD hE hRk
      by_cases hkn : (k : Int) < 2 + p
      · obtain ⟨wo, ewo⟩ : ∃ wo : World, wo = wr := ⟨_, rfl⟩
        subst ewo
        obtain ⟨ao, cap, eov, _, _, _⟩ := (unhide HD).grow.rowsIn
        subst eov
        obtain ⟨vals0, hvo0, _⟩ := (unhide HD).grow
        have HDO := hide hvo0
        clear hvo0
        have hfar := (unhide HD).far
        have l1 := (unhide HD).lt1
        have l2 := (unhide HD).lt2
        have AE := Below.alloc1 wo (.cells #[] 3)
        have KE : Hid (Kept (fun b => b = cb ∨ wo.heap.size ≤ b) wo (wo.alloc (.cells #[] 3))) := kept_of_below AE
        have OE : Hid ((wo.alloc (.cells #[] 3)).ownsRow wo.heap.size 3 1 (.slice (some ⟨wo.heap.size, 0, none⟩) 0 0) 0 (ints [])) :=
          ⟨rfl, Or.inr ⟨wo.heap.size, 0, #[], rfl, Nat.le_refl _, Go.Deep.blk_alloc_new _ _, Nat.le_refl _, Nat.zero_le _, rfl, rfl⟩⟩
        have H8 := hide (l1Below_any cb nb v 8 _ ((unhide HD).cur.below AE) hn (by omega) (by omega))
        clear AE
        go_wp2_with fail
        refine (unhide H8).mono ?_
        rintro e w8 ⟨x, rfl, hx0, hx1, hc, hk⟩
        have HC8 := hide hc
        have HK8 : Hid (Kept (fun b => b = cb ∨ wo.heap.size ≤ b) wo w8) := (unhide KE).trans (hk.mono (fun _ _ e => Or.inl e))
        have HO8 := hide (ownsRow_kept (unhide OE) hk (fun g hg _ _ e => by omega))
        clear hc hk H8 KE OE
        go_wp2
        go_loopg [7, 8, 9] 10 (fun g rv xv kv wr => ∃ j : Nat, ∃ row x, (j : Int) ≤ 2 + q ∧ g = 10 - j ∧ kv = .int .i64 j ∧ xv = .int .i64 x ∧ 0 ≤ x ∧ x ≤ 50 ∧ Hid (row.length = j ∧ (row.all fun x => inB x 0 50) = true) ∧ wr.ownsRow wo.heap.size 3 1 rv j (ints row) ∧ Cur wr cb v nb ∧ Kept (fun b => b = cb ∨ wo.heap.size ≤ b) wo wr)
        case atStart => exact ⟨0, [], x, by omega, rfl, rfl, rfl, hx0, by omega, ⟨rfl, rfl⟩, unhide HO8, unhide HC8, unhide HK8⟩
        case round =>
          obtain ⟨j, row, y, hjW, rfl, rfl, rfl, hy0, hy1, HR, hO, hC, hK⟩ := hrel
          have HO := hide hO
          have HC := hide hC
          have HK := hide hK
          have hsz := hK.size
          clear hO hC hK HC8 HK8 HO8 hx0 hx1
          by_cases hjn : (j : Int) < 2 + q
          · obtain ⟨i0, hi, hz0, hz1, hz2⟩ := info_parts Try.info3
            go_wp2_with (at_builtin; refine wpList_append_own _ rfl _ _ 31 rfl wo.heap.size 3 i0 (.int .i64 0) 1 8 Try.underlying31 hi hz0 hz1 hz2 rfl (by decide) _ _ _ rfl ((unhide HO).alloc _) ⟨wr.heap.size, 0, none⟩ 1 1 [.int .i64 y] rfl rfl ?c1 ?c2 ?c3 ?c4 ?c5 ?_)
            case c1 => exact cell_one_new _ _ _
            case c2 => intro u hu; simp at hu; subst hu; rfl
            case c3 => unfold maxLen; omega
            case c4 => omega
            case c5 => simp; omega
            intro v' wa hown' hgrow _
            have HOa : Hid (wa.ownsRow wo.heap.size 3 1 v' (j + 1) (ints (row ++ [y]))) := by show World.ownsRow _ _ _ _ _ _ _; rw [ints_snoc]; exact hown'
            have KA : Kept (fun b => wo.heap.size ≤ b) wr wa := ((Kept.refl _ wr).alloc _).grown hgrow (fun k hk => ((unhide HO).lt k hk).1)
            have HKa : Hid (Kept (fun b => b = cb ∨ wo.heap.size ≤ b) wo wa) := (unhide HK).trans (KA.mono (fun _ _ e => Or.inr e))
            have HCa := hide ((unhide HC).kept KA (fun b hb => by omega))
            have HRa : Hid ((row ++ [y]).length = j + 1 ∧ ((row ++ [y]).all fun x => inB x 0 50) = true) := ⟨by simp [HR.out.1], all_snoc HR.out.2 hy0 hy1⟩
            clear hown' hgrow KA HO HC HK HR hi hz0 hz1 hz2
            go_wp2_with fail
            refine (l1Below_any cb nb v 6 wa (unhide HCa) hn (by omega) (by omega)).mono ?_
            rintro e wb ⟨z, rfl, hz0, hz1, hc, hk⟩
            have HCb := hide hc
            have HKb : Hid (Kept (fun b => b = cb ∨ wo.heap.size ≤ b) wo wb) := (unhide HKa).trans (hk.mono (fun _ _ e => Or.inl e))
            have HOb := hide (ownsRow_kept (unhide HOa) hk (fun g hg _ _ e => by omega))
            clear hc hk HCa HKa HOa
            go_wp2_with fail
            refine (l1Once_any cb nb v 15 wb (unhide HCb) hn (by omega) (by omega)).mono ?_
            rintro e wc ⟨bb, rfl, hc, hk⟩
            have HCc := hide hc
            have HKc : Hid (Kept (fun b => b = cb ∨ wo.heap.size ≤ b) wo wc) := (unhide HKb).trans (hk.mono (fun _ _ e => Or.inl e))
            have HOc := hide (ownsRow_kept (unhide HOb) hk (fun g hg _ _ e => by omega))
            clear hc hk HCb HKb HOb
            cases bb with
            | true =>
              go_wp2_with fail
              refine (l1Below_any cb nb v 10 wc (unhide HCc) hn (by omega) (by omega)).mono ?_
              rintro e wd ⟨z2, rfl, hz20, hz21, hc, hk⟩
              have HCd := hide hc
              have HKd : Hid (Kept (fun b => b = cb ∨ wo.heap.size ≤ b) wo wd) := (unhide HKc).trans (hk.mono (fun _ _ e => Or.inl e))
              have HOd := hide (ownsRow_kept (unhide HOc) hk (fun g hg _ _ e => by omega))
              clear hc hk HCc HKc HOc
              go_wp2
              go_roundg (10 - (j + 1))
              case measure => omega
              case rel => exact ⟨j + 1, _, z2, by omega, rfl, by go_num, rfl, by omega, by omega, HRa, unhide HOd, unhide HCd, unhide HKd⟩
            | false =>
              by_cases h50 : 50 < y + z
              · go_wp2
                go_roundg (10 - (j + 1))
                case measure => omega
                case rel => exact ⟨j + 1, _, 50, by omega, rfl, by go_num, rfl, by omega, by omega, HRa, unhide HOc, unhide HCc, unhide HKc⟩
              · go_wp2
                go_roundg (10 - (j + 1))
                case measure => omega
                case rel => exact ⟨j + 1, _, y + z, by omega, rfl, by go_num, rfl, by omega, by omega, HRa, unhide HOc, unhide HCc, unhide HKc⟩
          · have hjj : (j : Int) = 2 + q := by omega
            obtain ⟨hrl, hra⟩ := HR.out
            subst hrl
            obtain ⟨g1, cap1, hv, hg1, hcap1, hcap2, hov1⟩ : ∃ g1 cap1, u7 = .slice (some ⟨g1, 0, none⟩) row.length cap1 ∧ wo.heap.size ≤ g1 ∧ row.length ≤ cap1 ∧ cap1 ≤ maxLen ∧ OwnV wr g1 (ints row) := by
              obtain ⟨_, h2⟩ := unhide HO
              rcases h2 with ⟨_, h0⟩ | ⟨g1, cap1, cur, hv, hg, hh, hc, hm', hs, ht⟩
              · omega
              · refine ⟨g1, cap1, hv, hg, hc, hm', cur, _, hh, fun i hi => ?_⟩
                rw [← ht]
                rw [ints_length] at hi
                simp [hi]
            obtain ⟨vals, hvo, hvr⟩ := (unhide HD).grow.kept (unhide HK) (fun g hg hl e => by rcases e with e | e <;> omega)
            have hbx := (unhide HD).box.kept (unhide HK) (by omega)
            have t2 := hbx.cell (i := 2) rfl
            have HBX := hide hbx
            have HVO := hide hvo
            have HVR := hide hvr
            have HV1 := hide hov1
            obtain ⟨i1, hi, hz0, hz1, hz2⟩ := info_parts Try.info31
            have hkR1 : R.length ≤ 12 := by have := unhide HRK; omega
            have HJJ := hide hjj
            have hrow2 : 2 ≤ row.length := by omega
            have hrow3 : row.length ≤ 10 := by omega
            have HRA : Hid ((row.all fun x => inB x 0 50) = true) := hra
            clear hbx hvo hvr hov1 HO HR hra hjj
            subst hv
            go_wp2_with (at_builtin; refine wpList_append_lies _ rfl _ _ 24 rfl (w3.heap.size + 1) 31 i1 (.slice none 0 0) 1 24 Try.underlying24 hi hz0 hz1 hz2 rfl (by decide) (.slice ao R.length cap) R.length vals rfl ((unhide HVO).alloc _) ⟨wr.heap.size, 0, none⟩ 1 1 [.slice (some ⟨g1, 0, none⟩) row.length cap1] rfl rfl (cell_one_new _ _ _) (by simp [Value.oneCell']) (by omega) (by unfold maxLen; omega) (by omega) (by simp; omega) (wr.heap.size + 1) (by simp) ?_; intro g' cap' w2 hown' hgrow hat _; have hbl : ∀ k, (Value.slice ao R.length cap).ownBlock = some k → w3.heap.size + 1 ≤ k := (fun k hk => ((unhide HVO).lt k hk).1); have hbx2 : OwnV w2 w3.heap.size [.int .i64 (1 + a), .int .i64 (1 + b), .slice ao R.length cap] := (((unhide HBX).alloc _).of_block (hgrow.block _ (by simp; omega) (fun e => by have := hbl _ e.symm; omega))); have t2' := hbx2.cell (i := 2) rfl; have f2' := hbx2.frozen 2; have hne1 : (Value.slice ao R.length cap).ownBlock ≠ some g1 := (fun e => by have := ((unhide HDO).lt g1 e).2; omega); have HN := hide (DrawSt.push (unhide HD) (unhide HK) (unhide HC) (unhide HVR) (by have := (unhide HVO).1; omega) (unhide HV1) hg1 hcap1 hcap2 hne1 hbl hown' hgrow hat); have HEN := hide ((unhide HE).push (show row.length = (2 + q).toNat by have := unhide HJJ; omega) (unhide HRA)); clear hown' hgrow hat hbl hbx2 hne1)
            go_roundg (12 - (k + 1))
            case measure => omega
            case rel => exact ⟨k + 1, _, _, by omega, rfl, by go_num, by rw [List.length_append, unhide HRK]; rfl, unhide HEN, unhide HN⟩
      · have hkk : (k : Int) = 2 + p := by omega
        have hO := (unhide HD).res
        have hB := (unhide HD).box
        have hok : drawnHull (1 + a) (1 + b) R := ⟨even_ok (unhide HE) (by omega) (by omega) (by omega) (by omega) (by rw [unhide HRK]; omega) (by rw [unhide HRK]; omega) (by omega) (by omega), by omega, by omega⟩
        obtain ⟨ao, cap, eov, _, _, _⟩ := (unhide HD).grow.rowsIn
        subst eov
        have r0 := hO.cell (i := 0) rfl
        have r1 := hO.cell (i := 1) rfl
        have r2 := hO.cell (i := 2) rfl
        have s0 := hO.frozen 0
        have s1 := hO.frozen 1
        have s2 := hO.frozen 2
        have t0 := hB.cell (i := 0) rfl
        have t1 := hB.cell (i := 1) rfl
        have t2 := hB.cell (i := 2) rfl
        have HOK := hide hok
        have HS : Hid (DrawSt w wr cb nb w3.heap.size v (1 + a) (1 + b) (.slice ao R.length cap) R) := unhide HD
        clear hO hB hok hkk HD
        go_wp2
        refine bodyPost_ret (v := .agg #[.int .i64 (1 + a), .int .i64 (1 + b), .slice ao R.length cap]) (by simp [results, Try.results49, go_sem, r0, r1, r2]) rfl ⟨1 + a, 1 + b, R, ao, R.length, cap, rfl, ?_, unhide HOK, ?_, ?_⟩
        · exact ((unhide HS).grow.kept (DrawSt.out wr w.heap.size _ _ _) (fun g hg _ e => by have := (unhide HS).lt2; omega)).mono (by have := (unhide HS).lt2; omega)
        · exact (unhide HS).cur.kept (DrawSt.out wr w.heap.size _ _ _) (fun b e => by have := (unhide HS).lt1; omega)
        · exact (((unhide HS).kept.mono (T' := fun b => b = cb ∨ w.heap.size ≤ b) (fun _ _ e => Or.inl e)).trans ((DrawSt.out wr w.heap.size _ _ _).mono (fun _ _ e => Or.inr (by omega)))).mono (fun k hk e => by rcases e with e | e <;> omega)
  | true =>
    go_wp2
    go_loopg [6] 12 (fun g sv wr => ∃ k : Nat, ∃ R ov, (k : Int) ≤ 12 ∧ g = 12 - k ∧ sv = .int .i64 k ∧ R.length = k ∧ Even ((10 : Int)).toNat R ∧ DrawSt w wr cb nb w3.heap.size v (1 + a) (1 + b) ov R)
    case atStart => exact ⟨0, [], _, by omega, rfl, rfl, rfl, fun r hr => by simp at hr, unhide HD7⟩
    case round =>
      obtain ⟨k, R, ov, hkN, rfl, rfl, hRk, hE, hD⟩ := hrel
      have HD := hide hD
      have HE := hide hE
      have HRK := hide hRk
      clear hD hE hRk
      by_cases hkn : (k : Int) < 12
      · obtain ⟨wo, ewo⟩ : ∃ wo : World, wo = wr := ⟨_, rfl⟩
        subst ewo
        obtain ⟨ao, cap, eov, _, _, _⟩ := (unhide HD).grow.rowsIn
        subst eov
        obtain ⟨vals0, hvo0, _⟩ := (unhide HD).grow
        have HDO := hide hvo0
        clear hvo0
        have hfar := (unhide HD).far
        have l1 := (unhide HD).lt1
        have l2 := (unhide HD).lt2
        have AE := Below.alloc1 wo (.cells #[] 3)
        have KE : Hid (Kept (fun b => b = cb ∨ wo.heap.size ≤ b) wo (wo.alloc (.cells #[] 3))) := kept_of_below AE
        have OE : Hid ((wo.alloc (.cells #[] 3)).ownsRow wo.heap.size 3 1 (.slice (some ⟨wo.heap.size, 0, none⟩) 0 0) 0 (ints [])) :=
          ⟨rfl, Or.inr ⟨wo.heap.size, 0, #[], rfl, Nat.le_refl _, Go.Deep.blk_alloc_new _ _, Nat.le_refl _, Nat.zero_le _, rfl, rfl⟩⟩
        have H8 := hide (l1Below_any cb nb v 8 _ ((unhide HD).cur.below AE) hn (by omega) (by omega))
        clear AE
        go_wp2_with fail
        refine (unhide H8).mono ?_
        rintro e w8 ⟨x, rfl, hx0, hx1, hc, hk⟩
        have HC8 := hide hc
        have HK8 : Hid (Kept (fun b => b = cb ∨ wo.heap.size ≤ b) wo w8) := (unhide KE).trans (hk.mono (fun _ _ e => Or.inl e))
        have HO8 := hide (ownsRow_kept (unhide OE) hk (fun g hg _ _ e => by omega))
        clear hc hk H8 KE OE
        go_wp2
        go_loopg [7, 8, 9] 10 (fun g rv xv kv wr => ∃ j : Nat, ∃ row x, (j : Int) ≤ (10 : Int) ∧ g = 10 - j ∧ kv = .int .i64 j ∧ xv = .int .i64 x ∧ 0 ≤ x ∧ x ≤ 50 ∧ Hid (row.length = j ∧ (row.all fun x => inB x 0 50) = true) ∧ wr.ownsRow wo.heap.size 3 1 rv j (ints row) ∧ Cur wr cb v nb ∧ Kept (fun b => b = cb ∨ wo.heap.size ≤ b) wo wr)
        case atStart => exact ⟨0, [], x, by omega, rfl, rfl, rfl, hx0, by omega, ⟨rfl, rfl⟩, unhide HO8, unhide HC8, unhide HK8⟩
        case round =>
          obtain ⟨j, row, y, hjW, rfl, rfl, rfl, hy0, hy1, HR, hO, hC, hK⟩ := hrel
          have HO := hide hO
          have HC := hide hC
          have HK := hide hK
          have hsz := hK.size
          clear hO hC hK HC8 HK8 HO8 hx0 hx1
          by_cases hjn : (j : Int) < (10 : Int)
          · obtain ⟨i0, hi, hz0, hz1, hz2⟩ := info_parts Try.info3
            go_wp2_with (at_builtin; refine wpList_append_own _ rfl _ _ 31 rfl wo.heap.size 3 i0 (.int .i64 0) 1 8 Try.underlying31 hi hz0 hz1 hz2 rfl (by decide) _ _ _ rfl ((unhide HO).alloc _) ⟨wr.heap.size, 0, none⟩ 1 1 [.int .i64 y] rfl rfl ?c1 ?c2 ?c3 ?c4 ?c5 ?_)
            case c1 => exact cell_one_new _ _ _
            case c2 => intro u hu; simp at hu; subst hu; rfl
            case c3 => unfold maxLen; omega
            case c4 => omega
            case c5 => simp; omega
            intro v' wa hown' hgrow _
            have HOa : Hid (wa.ownsRow wo.heap.size 3 1 v' (j + 1) (ints (row ++ [y]))) := by show World.ownsRow _ _ _ _ _ _ _; rw [ints_snoc]; exact hown'
            have KA : Kept (fun b => wo.heap.size ≤ b) wr wa := ((Kept.refl _ wr).alloc _).grown hgrow (fun k hk => ((unhide HO).lt k hk).1)
            have HKa : Hid (Kept (fun b => b = cb ∨ wo.heap.size ≤ b) wo wa) := (unhide HK).trans (KA.mono (fun _ _ e => Or.inr e))
            have HCa := hide ((unhide HC).kept KA (fun b hb => by omega))
            have HRa : Hid ((row ++ [y]).length = j + 1 ∧ ((row ++ [y]).all fun x => inB x 0 50) = true) := ⟨by simp [HR.out.1], all_snoc HR.out.2 hy0 hy1⟩
            clear hown' hgrow KA HO HC HK HR hi hz0 hz1 hz2
            go_wp2_with fail
            refine (l1Below_any cb nb v 6 wa (unhide HCa) hn (by omega) (by omega)).mono ?_
            rintro e wb ⟨z, rfl, hz0, hz1, hc, hk⟩
            have HCb := hide hc
            have HKb : Hid (Kept (fun b => b = cb ∨ wo.heap.size ≤ b) wo wb) := (unhide HKa).trans (hk.mono (fun _ _ e => Or.inl e))
            have HOb := hide (ownsRow_kept (unhide HOa) hk (fun g hg _ _ e => by omega))
            clear hc hk HCa HKa HOa
            go_wp2_with fail
            refine (l1Once_any cb nb v 15 wb (unhide HCb) hn (by omega) (by omega)).mono ?_
            rintro e wc ⟨bb, rfl, hc, hk⟩
            have HCc := hide hc
            have HKc : Hid (Kept (fun b => b = cb ∨ wo.heap.size ≤ b) wo wc) := (unhide HKb).trans (hk.mono (fun _ _ e => Or.inl e))
            have HOc := hide (ownsRow_kept (unhide HOb) hk (fun g hg _ _ e => by omega))
            clear hc hk HCb HKb HOb
            cases bb with
            | true =>
              go_wp2_with fail
              refine (l1Below_any cb nb v 10 wc (unhide HCc) hn (by omega) (by omega)).mono ?_
              rintro e wd ⟨z2, rfl, hz20, hz21, hc, hk⟩
              have HCd := hide hc
              have HKd : Hid (Kept (fun b => b = cb ∨ wo.heap.size ≤ b) wo wd) := (unhide HKc).trans (hk.mono (fun _ _ e => Or.inl e))
              have HOd := hide (ownsRow_kept (unhide HOc) hk (fun g hg _ _ e => by omega))
              clear hc hk HCc HKc HOc
              go_wp2
              go_roundg (10 - (j + 1))
              case measure => omega
              case rel => exact ⟨j + 1, _, z2, by omega, rfl, by go_num, rfl, by omega, by omega, HRa, unhide HOd, unhide HCd, unhide HKd⟩
            | false =>
              by_cases h50 : 50 < y + z
              · go_wp2
                go_roundg (10 - (j + 1))
                case measure => omega
                case rel => exact ⟨j + 1, _, 50, by omega, rfl, by go_num, rfl, by omega, by omega, HRa, unhide HOc, unhide HCc, unhide HKc⟩
              · go_wp2
                go_roundg (10 - (j + 1))
                case measure => omega
                case rel => exact ⟨j + 1, _, y + z, by omega, rfl, by go_num, rfl, by omega, by omega, HRa, unhide HOc, unhide HCc, unhide HKc⟩
          · have hjj : (j : Int) = (10 : Int) := by omega
            obtain ⟨hrl, hra⟩ := HR.out
            subst hrl
            obtain ⟨g1, cap1, hv, hg1, hcap1, hcap2, hov1⟩ : ∃ g1 cap1, u7 = .slice (some ⟨g1, 0, none⟩) row.length cap1 ∧ wo.heap.size ≤ g1 ∧ row.length ≤ cap1 ∧ cap1 ≤ maxLen ∧ OwnV wr g1 (ints row) := by
              obtain ⟨_, h2⟩ := unhide HO
              rcases h2 with ⟨_, h0⟩ | ⟨g1, cap1, cur, hv, hg, hh, hc, hm', hs, ht⟩
              · omega
              · refine ⟨g1, cap1, hv, hg, hc, hm', cur, _, hh, fun i hi => ?_⟩
                rw [← ht]
                rw [ints_length] at hi
                simp [hi]
            obtain ⟨vals, hvo, hvr⟩ := (unhide HD).grow.kept (unhide HK) (fun g hg hl e => by rcases e with e | e <;> omega)
            have hbx := (unhide HD).box.kept (unhide HK) (by omega)
            have t2 := hbx.cell (i := 2) rfl
            have HBX := hide hbx
            have HVO := hide hvo
            have HVR := hide hvr
            have HV1 := hide hov1
            obtain ⟨i1, hi, hz0, hz1, hz2⟩ := info_parts Try.info31
            have hkR1 : R.length ≤ 12 := by have := unhide HRK; omega
            have HJJ := hide hjj
            have hrow2 : 2 ≤ row.length := by omega
            have hrow3 : row.length ≤ 10 := by omega
            have HRA : Hid ((row.all fun x => inB x 0 50) = true) := hra
            clear hbx hvo hvr hov1 HO HR hra hjj
            subst hv
            go_wp2_with (at_builtin; refine wpList_append_lies _ rfl _ _ 24 rfl (w3.heap.size + 1) 31 i1 (.slice none 0 0) 1 24 Try.underlying24 hi hz0 hz1 hz2 rfl (by decide) (.slice ao R.length cap) R.length vals rfl ((unhide HVO).alloc _) ⟨wr.heap.size, 0, none⟩ 1 1 [.slice (some ⟨g1, 0, none⟩) row.length cap1] rfl rfl (cell_one_new _ _ _) (by simp [Value.oneCell']) (by omega) (by unfold maxLen; omega) (by omega) (by simp; omega) (wr.heap.size + 1) (by simp) ?_; intro g' cap' w2 hown' hgrow hat _; have hbl : ∀ k, (Value.slice ao R.length cap).ownBlock = some k → w3.heap.size + 1 ≤ k := (fun k hk => ((unhide HVO).lt k hk).1); have hbx2 : OwnV w2 w3.heap.size [.int .i64 (1 + a), .int .i64 (1 + b), .slice ao R.length cap] := (((unhide HBX).alloc _).of_block (hgrow.block _ (by simp; omega) (fun e => by have := hbl _ e.symm; omega))); have t2' := hbx2.cell (i := 2) rfl; have f2' := hbx2.frozen 2; have hne1 : (Value.slice ao R.length cap).ownBlock ≠ some g1 := (fun e => by have := ((unhide HDO).lt g1 e).2; omega); have HN := hide (DrawSt.push (unhide HD) (unhide HK) (unhide HC) (unhide HVR) (by have := (unhide HVO).1; omega) (unhide HV1) hg1 hcap1 hcap2 hne1 hbl hown' hgrow hat); have HEN := hide ((unhide HE).push (show row.length = ((10 : Int)).toNat by have := unhide HJJ; omega) (unhide HRA)); clear hown' hgrow hat hbl hbx2 hne1)
            go_roundg (12 - (k + 1))
            case measure => omega
            case rel => exact ⟨k + 1, _, _, by omega, rfl, by go_num, by rw [List.length_append, unhide HRK]; rfl, unhide HEN, unhide HN⟩
      · have hkk : (k : Int) = 12 := by omega
        have hO := (unhide HD).res
        have hB := (unhide HD).box
        have hok : drawnHull (1 + a) (1 + b) R := ⟨even_ok (unhide HE) (by omega) (by omega) (by omega) (by omega) (by rw [unhide HRK]; omega) (by rw [unhide HRK]; omega) (by omega) (by omega), by omega, by omega⟩
        obtain ⟨ao, cap, eov, _, _, _⟩ := (unhide HD).grow.rowsIn
        subst eov
        have r0 := hO.cell (i := 0) rfl
        have r1 := hO.cell (i := 1) rfl
        have r2 := hO.cell (i := 2) rfl
        have s0 := hO.frozen 0
        have s1 := hO.frozen 1
        have s2 := hO.frozen 2
        have t0 := hB.cell (i := 0) rfl
        have t1 := hB.cell (i := 1) rfl
        have t2 := hB.cell (i := 2) rfl
        have HOK := hide hok
        have HS : Hid (DrawSt w wr cb nb w3.heap.size v (1 + a) (1 + b) (.slice ao R.length cap) R) := unhide HD
        clear hO hB hok hkk HD
        go_wp2
        refine bodyPost_ret (v := .agg #[.int .i64 (1 + a), .int .i64 (1 + b), .slice ao R.length cap]) (by simp [results, Try.results49, go_sem, r0, r1, r2]) rfl ⟨1 + a, 1 + b, R, ao, R.length, cap, rfl, ?_, unhide HOK, ?_, ?_⟩
        · exact ((unhide HS).grow.kept (DrawSt.out wr w.heap.size _ _ _) (fun g hg _ e => by have := (unhide HS).lt2; omega)).mono (by have := (unhide HS).lt2; omega)
        · exact (unhide HS).cur.kept (DrawSt.out wr w.heap.size _ _ _) (fun b e => by have := (unhide HS).lt1; omega)
        · exact (((unhide HS).kept.mono (T' := fun b => b = cb ∨ w.heap.size ≤ b) (fun _ _ e => Or.inl e)).trans ((DrawSt.out wr w.heap.size _ _ _).mono (fun _ _ e => Or.inr (by omega)))).mono (fun k hk e => by rcases e with e | e <;> omega)

end Go.Proofs.Yticcjdcglfiggaa

/- The specification's DrawRightHull: whatever the bytes, a right hull and a water line of it. -/
namespace Go.Proofs.Yticcjdcglfiggaa
open Go.RowKit

set_option maxHeartbeats 1600000 in
theorem drawRightHull_any (v : Value) (nb : Nat) (w : World) (h : BytesIn w.heap.size w v nb) (hn : nb ≤ 1048576) :
    Calls Try.prog 10 #[v] w fun e w' => ∃ step rise R ao n cap x, e = .returned (.tuple #[hullV step rise (.slice ao n cap), .int .i64 x]) ∧ RowsIn w' (.slice ao n cap) R ∧ drawnHull step rise R ∧ 0 ≤ x ∧ x < (R.getD 0 []).length ∧ Below w.heap.size w w' := by
  have A1 := Below.alloc1 w (.cells #[.int .i64 0, .int .i64 0, .slice none 0 0] 26)
  have O1 : OwnV (w.alloc (.cells #[.int .i64 0, .int .i64 0, .slice none 0 0] 26)) w.heap.size [.int .i64 0, .int .i64 0, .slice none 0 0] := ⟨_, _, Go.Deep.blk_alloc_new _ _, fun i _ => by simp⟩
  have hB1 : BytesIn (w.alloc (.cells #[.int .i64 0, .int .i64 0, .slice none 0 0] 26)).heap.size (w.alloc (.cells #[.int .i64 0, .int .i64 0, .slice none 0 0] 26)) v nb := by
    obtain ⟨ao, cap, e, h1, h2, h3⟩ := h.below A1 (Nat.le_refl _)
    exact ⟨ao, cap, e, h1, h2, fun i hi => by obtain ⟨b, o, x, e1, hl, r⟩ := h3 i hi; exact ⟨b, o, x, e1, by simp; omega, r⟩⟩
  have H1 := hide (l1New_any v nb _ hB1 hn)
  have HA1 := hide A1
  have HO1 := hide O1
  obtain ⟨vao, vcap, rfl, _, _, _⟩ := h
  clear A1 O1 hB1
  go_enter Try.func10, Try.ntmps10
  go_wp2_with fail
  refine (unhide H1).mono ?_
  rintro e w2 ⟨rfl, hc, hb, hsz⟩
  simp only [World.size_alloc] at hc hsz
  have HC2 := hide hc
  have HW2 := hide (Below.step (unhide HA1) hb)
  have HO2 := hide ((unhide HO1).below hb (by simp))
  have hz2 : w2.heap.size = w.heap.size + 1 + 1 := hsz
  have HZ2 := hide hz2
  clear hc hb hsz hz2 H1 HA1 HO1
  have H3 := hide (l1DrawHull_any _ nb _ w2 (unhide HC2) hn)
  go_wp2_with fail
  refine (unhide H3).mono ?_
  rintro e w3 ⟨step, rise, R, ao, n, cap, rfl, hG, hok, hc, hk⟩
  have hr := hullOk_right hok.1
  have hl1 := hr.len1
  have hl2 := hr.len2
  obtain ⟨b, cap', ev, hb, hcp1, hcp2⟩ := hG.form (by omega)
  simp only [Value.slice.injEq] at ev
  obtain ⟨rfl, rfl, rfl⟩ := ev
  obtain ⟨_, _, ev, _, _, hrows⟩ := hG.rowsIn
  simp only [Value.slice.injEq, true_and] at ev
  obtain ⟨rfl, rfl⟩ := ev
  obtain ⟨b', o', ar, m, cr, eb, hcell, _, EM, hm0⟩ := rowAt hrows (show 0 < R.length by omega)
  simp only [Option.some.injEq, Addr.mk.injEq, and_true] at eb
  obtain ⟨rfl, rfl⟩ := eb
  simp only [Nat.add_zero] at hcell
  have hm2 : 2 ≤ m := by rw [← unhide EM]; exact hr.wat1
  have hm3 : m ≤ 10 := by rw [← unhide EM]; exact hr.wat2
  obtain ⟨W, eW⟩ : ∃ W, W = w3.alloc (.cells #[.int .i64 step, .int .i64 rise, .slice (some ⟨b, 0, none⟩) R.length cap] 26) := ⟨_, rfl⟩
  have A4 : Below w3.heap.size w3 W := by rw [eW]; exact Below.alloc1 _ _
  have X4 : Box3 W w3.heap.size (.int .i64 step) (.int .i64 rise) (.slice (some ⟨b, 0, none⟩) R.length cap) := by rw [eW]; exact box3_alloc _ _ _ _ _
  have hz3 := hk.size
  rw [unhide HZ2] at hz3 hb hG
  have O4 : OwnV W w.heap.size [.int .i64 0, .int .i64 0, .slice none 0 0] := ((unhide HO2).kept hk (by omega)).below A4 (by omega)
  have W4 : Below w.heap.size w W := ((unhide HW2).trans (hk.below (by rw [unhide HZ2]; omega) (fun k hk => by omega))).trans (A4.mono (by omega))
  have c3 : W.cell? ⟨b, 0, none⟩ = some (.slice ar m cr) := (A4.cell (lt_of_cell hcell)).trans hcell
  have HG := hide (hG.below A4)
  have HX := hide X4
  have HO := hide O4
  have HW := hide W4
  have hWd : Below W.heap.size W W.drew := (Below.refl _ _).drew
  have HT := hide (l1Below_any (w.heap.size + 1) nb _ (m : Int) W.drew ((hc.below A4).below hWd) hn (by omega) (by omega))
  obtain ⟨c0, c1, c2⟩ := X4
  have s0 := O4.cell (i := 0) rfl
  have s1 := O4.cell (i := 1) rfl
  have s2 := O4.cell (i := 2) rfl
  have f0 := O4.frozen 0
  have f1 := O4.frozen 1
  have f2 := O4.frozen 2
  have ne1 : ¬ w.heap.size = w3.heap.size := by omega
  have ne2 : ¬ w.heap.size = b := by omega
  have hix : 0 < R.length := by omega
  have HOK := hide hok
  have HR0 := hide c3
  have hbW : b < W.heap.size := lt_of_cell c3
  clear hG hok hc hk hr hrows hcell A4 O4 W4 hWd
  go_wp2
  have EW := hide eW
  rw [← eW]
  clear eW
  go_region_held3 (fun w' => w'.cell? ⟨w3.heap.size, 0, none⟩ = some (.int .i64 step) ∧ w'.cell? ⟨w3.heap.size, 1, none⟩ = some (.int .i64 rise) ∧ w'.cell? ⟨w3.heap.size, 2, none⟩ = some (.slice (some ⟨b, 0, none⟩) R.length cap) ∧ w'.cell? ⟨b, 0, none⟩ = some (.slice ar m cr)) (go_keep) (first | (go_at_call 50; refine (unhide HT).mono ?_; rintro e w5 ⟨x, rfl, hx0, hx1, hc5, hk5⟩; have hK5 : Kept (fun b => b = w.heap.size + 1) W w5 := ((kept_of_below ((Below.refl _ W).drew)).trans hk5); have HK5 := hide hK5; obtain ⟨e0, e1, e2⟩ := (unhide HX).kept hK5 (by omega); have e3 : w5.cell? ⟨b, 0, none⟩ = some (.slice ar m cr) := ((World.cell?_of_block (w := W) (a := ⟨b, 0, none⟩) (hK5.block b hbW (by omega))).trans (unhide HR0)); have hO5 := (unhide HO).kept hK5 (by omega); have r0 := hO5.cell (i := 0) rfl; have r1 := hO5.cell (i := 1) rfl; have r2 := hO5.cell (i := 2) rfl; have p0 := hO5.frozen 0; have p1 := hO5.frozen 1; have p2 := hO5.frozen 2; clear hc5 hk5 hK5 hO5))
  go_wp2
  refine bodyPost_ret (v := .tuple #[.agg #[.int .i64 step, .int .i64 rise, .slice (some ⟨b, 0, none⟩) R.length cap], .int .i64 x]) (by simp [results, Try.results10, go_sem, r0, r1, r2]) rfl ⟨step, rise, R, _, _, _, x, rfl, ?_, unhide HOK, hx0, ?_, ?_⟩
  · exact (((unhide HG).kept (unhide HK5) (fun g hg _ e => by omega)).kept (DrawSt.out _ _ _ _ _) (fun g hg _ e => by omega)).rowsIn
  · rw [unhide EM]; exact hx1
  · exact ((unhide HW).trans ((unhide HK5).below (by omega) (fun k e => by omega))).trans ((DrawSt.out _ _ _ _ _).below (by have := (unhide HK5).size; omega) (fun k e => by omega))

end Go.Proofs.Yticcjdcglfiggaa

/- Contracts of the laws' own big and at. -/
namespace Go.Proofs.Yticcjdcglfiggaa
open Go.RowKit

set_option maxHeartbeats 400000 in
theorem big_any (ao : Option Addr) (n cap : Nat) (w : World) : Calls Try.prog 9 #[.slice ao n cap] w fun e w' => e = .returned (.bool (decide ((1048576 : Int) < (n : Int)))) ∧ w = w' := by
  go_enter Try.func9, Try.ntmps9
  go_wp2
  go_ret
  exact ⟨rfl, rfl⟩

set_option maxHeartbeats 400000 in
theorem at_any (v : Value) (n : Nat) (B : Nat) (k : Nat) (w : World) (h : BytesIn B w v n) (hn : n ≤ 1048576) (hk : k ≤ 1000) :
    Calls Try.prog 19 #[v, .int .i64 k] w fun e w' => ∃ x, e = .returned (.int .i64 x) ∧ 0 ≤ x ∧ x ≤ 255 ∧ w = w' := by
  obtain ⟨ao, cap, rfl, _, _, hc⟩ := h
  by_cases hkn : k < n
  · have hkn' : (k : Int) < (n : Int) := by omega
    obtain ⟨b, o, y, rfl, _, hcell, hy1, hy2⟩ := hc k hkn
    clear hc
    go_enter Try.func19, Try.ntmps19
    go_wp2
    go_ret
    exact ⟨_, rfl, hy1, hy2, rfl⟩
  · have hkn' : (n : Int) ≤ (k : Int) := by omega
    clear hc
    go_enter Try.func19, Try.ntmps19
    go_wp2
    go_ret
    exact ⟨_, rfl, by omega, by omega, rfl⟩

end Go.Proofs.Yticcjdcglfiggaa

/- FnHoled's parts: a byte of the law's own, told once for all later worlds; what one room does to a hull, in numbers. -/
namespace Go.Proofs.Yticcjdcglfiggaa
open Go.RowKit

set_option maxHeartbeats 400000 in
theorem at_fix (v : Value) (n : Nat) (k : Nat) (w : World) (h : BytesIn w.heap.size w v n) (hn : n ≤ 1048576) (hk : k ≤ 1000) :
    ∃ y : Int, 0 ≤ y ∧ y ≤ 255 ∧ ∀ W, Below w.heap.size w W → Calls Try.prog 19 #[v, .int .i64 k] W fun e w' => e = .returned (.int .i64 y) ∧ w' = W := by
  obtain ⟨ao, cap, rfl, _, _, hc⟩ := h
  by_cases hkn : k < n
  · have hkn' : (k : Int) < (n : Int) := by omega
    obtain ⟨b, o, y, rfl, hlt, hcell, hy1, hy2⟩ := hc k hkn
    refine ⟨y, hy1, hy2, fun W hW => ?_⟩
    have hcell' := (hW.cell (p := ⟨b, o + k, none⟩) hlt).trans hcell
    clear hc hcell hW
    go_enter Try.func19, Try.ntmps19
    go_wp2
    go_ret
    exact ⟨rfl, rfl⟩
  · have hkn' : (n : Int) ≤ (k : Int) := by omega
    refine ⟨((k : Int) * 7 + n) % 256, by omega, by omega, fun W hW => ?_⟩
    clear hc hW
    go_enter Try.func19, Try.ntmps19
    go_wp2
    go_ret
    exact ⟨rfl, rfl⟩

theorem roomsB_one {step rise : Int} {R : List (List Int)} {a b z : Int} (h : hullOk step rise R = true) (h1 : 0 ≤ a) (h2 : a ≤ b) (h3 : b < R.length) (h4 : 0 ≤ z) (h5 : z ≤ 100) : roomsB step rise R [(a, b, z)] = true := by
  refine roomsB_mk h (by simp) (fun r hr => ?_)
  have : r = 0 := by simpa using hr
  subst this
  simp [roomAt, roomB, h1, h2, h3, inB_mk h4 h5]

theorem permTo_one {a b z : Int} (s : Nat) : permTo [(a, b, z)] s 1 = if inB s a b = true then z else 0 := by simp [permTo]

theorem flood_none {step rise : Int} {R : List (List Int)} {a b : Int} (h : roomsB step rise R [(a, b, 0)] = true) : fStep step rise R [(a, b, 0)] = step ∧ fRise step rise R [(a, b, 0)] = rise ∧ fRows step rise R [(a, b, 0)] = R := by
  refine ⟨by rw [fStep, if_pos h], by rw [fRise, if_pos h], ?_⟩
  rw [fRows, if_pos h]
  refine (dips_congr (Q := fun _ => 0) fun s _ => ?_).trans (dips_none R)
  show permTo [(a, b, 0)] s 1 = 0
  rw [permTo_one]; split <;> rfl

theorem flood_one {step rise : Int} {R : List (List Int)} {L : List I3} (h : roomsB step rise R L = true) : fStep step rise R L = step ∧ fRise step rise R L = rise ∧ fRows step rise R L = dips R (fun s => permTo L s L.length) :=
  ⟨by rw [fStep, if_pos h], by rw [fRise, if_pos h], by rw [fRows, if_pos h]⟩

theorem dip_bd {p x : Int} (h1 : 0 ≤ p) (h2 : p ≤ 100) (h3 : 0 ≤ x) (h4 : x ≤ 50) : 0 ≤ dip p x ∧ dip p x ≤ x := by
  unfold dip
  have m1 := mul_bd (a := x) (b := 100 - p) (A := 50) (B := 100) h3 h4 (by omega) (by omega)
  have m2 : x * (100 - p) ≤ x * 100 := Int.mul_le_mul_of_nonneg_left (by omega) h3
  omega

theorem dips_cell {R : List (List Int)} {P : Nat → Int} {r c : Nat} (hr : r < R.length) (hc : c < (R.getD r []).length) : cellOf (dips R P) r c = dip (P r) (cellOf R r c) := by
  unfold cellOf
  rw [dips_get R P hr, dipRow]
  simp [List.getD]
  rw [List.getElem?_eq_getElem (by simpa [List.getD] using hc)]
  rfl

theorem dips_ok {step rise : Int} {R : List (List Int)} {P : Nat → Int} (h : hullOk step rise R = true) (hP : ∀ s, s < R.length → 0 ≤ P s ∧ P s ≤ 100) : hullOk step rise (dips R P) = true := by
  have hr := hullOk_right h
  refine hullOk_mk (inB_mk hr.step1 hr.step2) (inB_mk hr.rise1 hr.rise2) (by rw [dips_len]; exact inB_mk (by have := hr.len1; omega) (by have := hr.len2; omega)) (fun r hlt => ?_)
  rw [dips_len] at hlt
  have h0 := hr.len1
  rw [dips_get R P (by omega), dips_get R P hlt, dipRow_len]
  refine rowOk_mk (by rw [dipRow_len]; exact hr.even r hlt) (inB_mk (by have := hr.wat1; omega) (by have := hr.wat2; omega)) ?_
  rw [List.all_eq_true]
  intro y hy
  unfold dipRow at hy
  obtain ⟨x, hx, rfl⟩ := List.mem_map.1 hy
  obtain ⟨c, hc, rfl⟩ := List.mem_iff_getElem.1 hx
  have hcc := hr.cells r c hlt (by rw [← hr.even r hlt]; exact hc)
  unfold cellOf at hcc
  rw [getD_lt hc] at hcc
  have := dip_bd (hP r hlt).1 (hP r hlt).2 hcc.1 hcc.2
  exact inB_mk this.1 (by omega)

theorem sumTo_mono {f g : Nat → Int} {n : Nat} (h : ∀ i, i < n → f i ≤ g i) : ∀ k, k ≤ n → sumTo f k ≤ sumTo g k
  | 0, _ => Int.le_refl _
  | k + 1, hk => by
    have h1 := sumTo_mono h k (by omega)
    have h2 := h k (by omega)
    simp only [sumTo]
    omega

theorem volume_dips {step rise : Int} {R : List (List Int)} {P : Nat → Int} (h : hullOk step rise R = true) (hP : ∀ s, s < R.length → 0 ≤ P s ∧ P s ≤ 100) (c : Int) : volume step rise (dips R P) c ≤ volume step rise R c := by
  have hr := hullOk_right h
  have hl := hr.len1
  have e0 : ((dips R P).getD 0 []).length = (R.getD 0 []).length := by rw [dips_get R P (by omega), dipRow_len]
  have ew : waterOk step rise (dips R P) c = waterOk step rise R c := by
    unfold waterOk
    rw [dips_ok h hP, h, e0]
  unfold volume strips
  rw [ew]
  split
  case isFalse => simp [sumL, sumTo]
  case isTrue hw =>
    unfold waterOk at hw
    simp only [Bool.and_eq_true] at hw
    have hc := inB_true hw.2
    rw [dips_len]
    unfold sumL
    simp only [List.length_map, List.length_range]
    refine sumTo_mono (n := R.length - 1) (fun i hi => ?_) _ (Nat.le_refl _)
    have e : ∀ M : List (List Int), ((List.range (R.length - 1)).map (strip2 step rise M c.toNat)).getD i 0 = strip2 step rise M c.toNat i := fun M => by simp [List.getD, hi]
    rw [e, e]
    unfold strip2
    have m1 := mul_bd (a := rise) (b := step) (A := 20) (B := 100) (by have := hr.rise1; omega) hr.rise2 (by have := hr.step1; omega) hr.step2
    refine Int.mul_le_mul_of_nonneg_left ?_ m1.1
    unfold stripH
    refine sumTo_mono (n := c.toNat) (fun k hk => ?_) _ (Nat.le_refl _)
    have cell : ∀ s k, s < R.length → k < (R.getD 0 []).length → cellOf (dips R P) s k ≤ cellOf R s k := fun s k hs hk => by
      rw [dips_cell hs (by rw [hr.even s hs]; exact hk)]
      have hcc := hr.cells s k hs hk
      exact (dip_bd (hP s hs).1 (hP s hs).2 hcc.1 hcc.2).2
    unfold halvesF
    have a1 := cell i k (by omega) (by omega)
    have a2 := cell (i + 1) k (by omega) (by omega)
    have a3 := cell i (k + 1) (by omega) (by omega)
    have a4 := cell (i + 1) (k + 1) (by omega) (by omega)
    omega

theorem rec1_cells (a b c : Int) : recCells 3 e3 [(a, b, c)] = [.int .i64 a, .int .i64 b, .int .i64 c] := by
  simp [recCells, List.range_succ, e3]

end Go.Proofs.Yticcjdcglfiggaa

/- FnHoled: whatever the bytes, rooms that let nothing in change nothing, others leave no more volume, and a list of cases stands well just if each does. Written by wip/mkholed.py. -/
namespace Go.Proofs.Yticcjdcglfiggaa
open Go.RowKit

set_option maxHeartbeats 6400000 in
theorem fnHoled_any (v : Value) (nb : Nat) (w : World) (h : BytesIn w.heap.size w v nb) :
    Calls Try.prog 4 #[v] w fun e w' => e = .returned (.bool true) ∧ Below w.heap.size w w' := by
  have HB := hide h
  obtain ⟨vao, vcap, rfl, hl, hm, _⟩ := h
  unfold maxLen at hm
  by_cases hbig : (1048576 : Int) < (nb : Int)
  · go_enter Try.func4, Try.ntmps4
    go_wp2_with fail
    refine (big_any _ _ _ _).mono ?_
    rintro e w' ⟨rfl, rfl⟩
    go_wp2
    go_ret
    exact ⟨rfl, Below.refl _ _⟩
  have hn : nb ≤ 1048576 := by omega
  obtain ⟨y2, y20, y21, at2⟩ := at_fix _ nb 2 w (unhide HB) hn (by omega)
  obtain ⟨y3, y30, y31, at3⟩ := at_fix _ nb 3 w (unhide HB) hn (by omega)
  obtain ⟨y4, y40, y41, at4⟩ := at_fix _ nb 4 w (unhide HB) hn (by omega)
  obtain ⟨y5, y50, y51, at5⟩ := at_fix _ nb 5 w (unhide HB) hn (by omega)
  obtain ⟨y6, y60, y61, at6⟩ := at_fix _ nb 6 w (unhide HB) hn (by omega)
  have AT2 := hide at2
  have AT3 := hide at3
  have AT4 := hide at4
  have AT5 := hide at5
  have AT6 := hide at6
  clear at2 at3 at4 at5 at6
  go_enter Try.func4, Try.ntmps4
  go_wp2_with fail
  refine (big_any _ _ _ _).mono ?_
  rintro e w' ⟨rfl, rfl⟩
  go_wp2_with fail
  refine (drawRightHull_any _ nb w (unhide HB) hn).mono ?_
  rintro e w1 ⟨step, rise, R, ao, n, cap, x, rfl, hR, hok, hx0, hx1, hb⟩
  obtain ⟨ao', cap', ev, _, _, _⟩ := id hR
  simp only [Value.slice.injEq] at ev
  obtain ⟨rfl, rfl, rfl⟩ := ev
  have HR0 := hide hR
  have HOK := hide hok.1
  have hl1 := (hullOk_right hok.1).len1
  have hl2 := (hullOk_right hok.1).len2
  have HZ := hide (Below.refl w1.heap.size w1)
  have HW := hide hb
  have zw := hb.size
  clear hR hb hok hx0 hx1
  have AHX := Below.alloc1 (w1) (.cells #[.int .i64 step, .int .i64 rise, .slice ao R.length cap] 26)
  replace HW := hide (Below.step (unhide HW) AHX)
  replace HZ := hide (Below.step (unhide HZ) AHX)
  have HX := hide (ownV_alloc (w1) #[.int .i64 step, .int .i64 rise, .slice ao R.length cap] 26)
  clear AHX
  have cHX0 := OwnV.cell (unhide HX) (i := 0) rfl
  have cHX1 := OwnV.cell (unhide HX) (i := 1) rfl
  have cHX2 := OwnV.cell (unhide HX) (i := 2) rfl
  have hRne : ¬ ((R.length : Int) = 0) := by omega
  go_wp2
  go_quiet ((go_at_call 19; exact Calls.quiet_of_same (unhide AT2 _ (below_drewN (unhide HW) _))))
  clear cHX0 cHX1 cHX2
  have hd : Below ((w1).alloc (.cells #[.int .i64 step, .int .i64 rise, .slice ao R.length cap] 26)).heap.size ((w1).alloc (.cells #[.int .i64 step, .int .i64 rise, .slice ao R.length cap] 26)) (((w1).alloc (.cells #[.int .i64 step, .int .i64 rise, .slice ao R.length cap] 26)).drewN nq) := below_drewN (Below.refl _ _) nq
  replace HW := hide (Below.step (unhide HW) hd)
  replace HZ := hide (Below.step (unhide HZ) hd)
  replace HX := hide (OwnV.step (unhide HX) hd)
  clear hd
  obtain ⟨w2, ew2⟩ : ∃ x, x = ((w1).alloc (.cells #[.int .i64 step, .int .i64 rise, .slice ao R.length cap] 26)).drewN nq := ⟨_, rfl⟩
  rw [← ew2] at HW HZ HX ⊢
  have z2 : w1.heap.size + 1 ≤ w2.heap.size := by rw [ew2]; simp
  clear ew2
  have hla : 0 ≤ y2 % (R.length : Int) ∧ y2 % (R.length : Int) < R.length := by have := Int.emod_nonneg y2 hRne; have := Int.emod_lt_of_pos y2 (show (0 : Int) < R.length by omega); omega
  generalize y2 % (R.length : Int) = la at *
  clear y20 y21 AT2
  have cHX0 := OwnV.cell (unhide HX) (i := 0) rfl
  have cHX1 := OwnV.cell (unhide HX) (i := 1) rfl
  have cHX2 := OwnV.cell (unhide HX) (i := 2) rfl
  go_wp2_with fail
  clear cHX0 cHX1 cHX2
  have AHQ0 := Below.alloc1 (w2) (.cells #[.int .i64 0, .int .i64 la, .int .i64 0] 37)
  replace HW := hide (Below.step (unhide HW) AHQ0)
  replace HZ := hide (Below.step (unhide HZ) AHQ0)
  replace HX := hide (OwnV.step (unhide HX) AHQ0)
  have HQ0 := hide (ownV_alloc (w2) #[.int .i64 0, .int .i64 la, .int .i64 0] 37)
  clear AHQ0
  have HQ0r : Hid (R3 ((w2).alloc (.cells #[.int .i64 0, .int .i64 la, .int .i64 0] 37)) (.slice (some ⟨w2.heap.size, 0, none⟩) 1 1) [(0, la, 0)]) := by
    have h := OwnV.recsIn (n := 3) (enc := e3) (L := [(0, la, 0)]) (cap := 1) (by rw [rec1_cells]; exact unhide HQ0) (by simp) (by unfold maxLen; omega)
    exact h
  have hrb0 := roomsB_one (step := step) (rise := rise) (R := R) (a := 0) (b := la) (z := 0) (unhide HOK) (by omega) hla.1 hla.2 (by omega) (by omega)
  have hf0 := flood_none hrb0
  have HRB0 := hide hrb0
  clear hrb0
  refine (implFlood_any step rise _ R _ [(0, la, 0)] _ ((unhide HR0).below (unhide HZ)) (unhide HQ0r)).mono ?_
  rintro e w3 ⟨a0, n0, cp0, rfl, hr, hb⟩
  replace HW := hide (Below.step (unhide HW) hb)
  replace HZ := hide (Below.step (unhide HZ) hb)
  replace HX := hide (OwnV.step (unhide HX) hb)
  replace HQ0 := hide (OwnV.step (unhide HQ0) hb)
  replace HQ0r := hide ((unhide HQ0r).below hb)
  rw [hf0.1, hf0.2.1]
  rw [hf0.2.2] at hr
  have HRN := hide hr.upto.inn
  have zw3 := hb.size
  simp only [World.size_alloc] at zw3
  clear hb hr hf0
  have AHN := Below.alloc1 (w3) (.cells #[.int .i64 step, .int .i64 rise, .slice a0 n0 cp0] 26)
  replace HW := hide (Below.step (unhide HW) AHN)
  replace HZ := hide (Below.step (unhide HZ) AHN)
  replace HX := hide (OwnV.step (unhide HX) AHN)
  replace HQ0 := hide (OwnV.step (unhide HQ0) AHN)
  replace HQ0r := hide ((unhide HQ0r).below AHN)
  replace HRN := hide ((unhide HRN).below AHN)
  have HN := hide (ownV_alloc (w3) #[.int .i64 step, .int .i64 rise, .slice a0 n0 cp0] 26)
  clear AHN
  obtain ⟨V, eV⟩ : ∃ V, V = volume step rise R x := ⟨_, rfl⟩
  have EV := hide eV
  clear eV
  obtain ⟨w4, ew4⟩ : ∃ x, x = (w3).alloc (.cells #[.int .i64 step, .int .i64 rise, .slice a0 n0 cp0] 26) := ⟨_, rfl⟩
  rw [← ew4] at HW HZ HX HQ0 HQ0r HRN HN
  have Ew4 := hide ew4
  have zw4 : w3.heap.size + 1 ≤ w4.heap.size := by rw [ew4]; simp
  clear ew4
  go_wp2
  rw [← unhide Ew4]
  clear Ew4
  have rHN0 := fun y : Gr w4 => gr_cell (OwnV.cell (unhide HN) (i := 0) rfl) y
  have rHN1 := fun y : Gr w4 => gr_cell (OwnV.cell (unhide HN) (i := 1) rfl) y
  have rHN2 := fun y : Gr w4 => gr_cell (OwnV.cell (unhide HN) (i := 2) rfl) y
  have rHX0 := fun y : Gr w4 => gr_cell (OwnV.cell (unhide HX) (i := 0) rfl) y
  have rHX1 := fun y : Gr w4 => gr_cell (OwnV.cell (unhide HX) (i := 1) rfl) y
  have rHX2 := fun y : Gr w4 => gr_cell (OwnV.cell (unhide HX) (i := 2) rfl) y
  have S0 := hide fun y : Gr w4 => implHullOk_any step rise _ R y.val ((unhide HRN).below y.ok)
  rw [unhide HOK] at S0
  have S1 := hide fun y : Gr w4 => implVolume2_any step rise _ R x y.val ((unhide HRN).below y.ok)
  rw [← unhide EV] at S1
  have S2 := hide fun y : Gr w4 => specVolume2_any step rise _ R x y.val (((unhide HR0).below (unhide HZ)).below y.ok)
  rw [← unhide EV] at S2
  have gsome := gr_some w4
  refine wp_region_grown (by kernel_rfl) (by kernel_rfl) ?_
  repeat (go_big_quiet_step (fail))
  go_big_quiet_want
  go_big_quiet_op
  go_big_quiet_call (exact calls_grown (unhide S0 _))
  repeat (go_big_quiet_step (fail))
  go_big_quiet_want
  go_big_quiet_op
  go_big_quiet_call (exact calls_grown (unhide S1 _))
  repeat (go_big_quiet_step (fail))
  go_big_quiet_want
  go_big_quiet_op
  go_big_quiet_call (exact calls_grown (unhide S2 _))
  repeat (go_big_quiet_step (fail))
  refine wpQuiet_nil ?_
  intro w5 hw
  obtain ⟨zz, hz⟩ := hw
  have hb : Below w4.heap.size w4 w5 := hz ▸ zz.ok
  replace HW := hide (Below.step (unhide HW) hb)
  replace HZ := hide (Below.step (unhide HZ) hb)
  replace HX := hide (OwnV.step (unhide HX) hb)
  replace HQ0 := hide (OwnV.step (unhide HQ0) hb)
  replace HQ0r := hide ((unhide HQ0r).below hb)
  replace HRN := hide ((unhide HRN).below hb)
  replace HN := hide (OwnV.step (unhide HN) hb)
  have zw5 := hb.size
  clear hb hz zz gsome rHN0 rHN1 rHN2 rHX0 rHX1 rHX2 S0 S1 S2
  clear HN HRN HQ0 HQ0r
  have cHX0 := OwnV.cell (unhide HX) (i := 0) rfl
  have cHX1 := OwnV.cell (unhide HX) (i := 1) rfl
  have cHX2 := OwnV.cell (unhide HX) (i := 2) rfl
  have AT3' := hide (unhide AT3 (w5).drew ((unhide HW).drew))
  have k3 : IntKind.i64.wrap ((R.length : Int) - 1) = (R.length : Int) - 1 := by rw [IntKind.wrap_i64]; omega
  go_wp2
  go_region_held3 (fun w' => w'.cell? ⟨w1.heap.size, 2, none⟩ = some (.slice ao R.length cap)) (go_keep) (first | (go_at_call 19; refine (unhide AT3').mono ?_; rintro e w' ⟨rfl, rfl⟩))
  clear cHX0 cHX1 cHX2
  clear AT3' k3
  have hpm : 0 ≤ y3.tmod 101 ∧ y3.tmod 101 ≤ 100 := by have := Int.tmod_nonneg 101 y30; have := Int.tmod_lt_of_pos y3 (show (0 : Int) < 101 by omega); omega
  generalize y3.tmod 101 = pm at *
  obtain ⟨lb, elb⟩ : ∃ b, b = (R.length : Int) - 1 := ⟨_, rfl⟩
  rw [← elb]
  have hlb : lb < R.length ∧ la ≤ lb := by omega
  clear elb y30 y31 AT3
  have hg1 : w5.heap.size = w5.heap.size := rfl
  clear hg1
  have AHQ1 := Below.alloc1 (w5) (.cells #[.int .i64 la, .int .i64 lb, .int .i64 pm] 37)
  replace HW := hide (Below.step (unhide HW) AHQ1)
  replace HZ := hide (Below.step (unhide HZ) AHQ1)
  replace HX := hide (OwnV.step (unhide HX) AHQ1)
  have HQ1 := hide (ownV_alloc (w5) #[.int .i64 la, .int .i64 lb, .int .i64 pm] 37)
  clear AHQ1
  have HQ1r : Hid (R3 ((w5).alloc (.cells #[.int .i64 la, .int .i64 lb, .int .i64 pm] 37)) (.slice (some ⟨w5.heap.size, 0, none⟩) 1 1) [(la, lb, pm)]) := by
    have h := OwnV.recsIn (n := 3) (enc := e3) (L := [(la, lb, pm)]) (cap := 1) (by rw [rec1_cells]; exact unhide HQ1) (by simp) (by unfold maxLen; omega)
    exact h
  have hd : Below ((w5).alloc (.cells #[.int .i64 la, .int .i64 lb, .int .i64 pm] 37)).heap.size ((w5).alloc (.cells #[.int .i64 la, .int .i64 lb, .int .i64 pm] 37)) ((w5).alloc (.cells #[.int .i64 la, .int .i64 lb, .int .i64 pm] 37)).drew := (Below.refl _ _).drew
  replace HW := hide (Below.step (unhide HW) hd)
  replace HZ := hide (Below.step (unhide HZ) hd)
  replace HX := hide (OwnV.step (unhide HX) hd)
  replace HQ1 := hide (OwnV.step (unhide HQ1) hd)
  replace HQ1r := hide ((unhide HQ1r).below hd)
  clear hd
  obtain ⟨w6, ew6⟩ : ∃ x, x = ((w5).alloc (.cells #[.int .i64 la, .int .i64 lb, .int .i64 pm] 37)).drew := ⟨_, rfl⟩
  rw [← ew6] at HW HZ HX HQ1 HQ1r ⊢
  have zw6 : w5.heap.size + 1 ≤ w6.heap.size := by rw [ew6]; simp
  clear ew6
  have hrb1 := roomsB_one (step := step) (rise := rise) (R := R) (a := la) (b := lb) (z := pm) (unhide HOK) hla.1 hlb.2 hlb.1 hpm.1 hpm.2
  have HRB1 := hide hrb1
  have hf1 := flood_one hrb1
  have hP : ∀ q, q < R.length → 0 ≤ permTo [(la, lb, pm)] q 1 ∧ permTo [(la, lb, pm)] q 1 ≤ 100 := fun q _ => by rw [permTo_one]; split <;> omega
  have hvol := volume_dips (unhide HOK) (P := fun q => permTo [(la, lb, pm)] q 1) hP x
  rw [← unhide EV] at hvol
  have hMl : (fRows step rise R [(la, lb, pm)]).length = R.length := by rw [hf1.2.2, dips_len]
  have hvol2 : volume step rise (fRows step rise R [(la, lb, pm)]) x ≤ V := by rw [hf1.2.2]; exact hvol
  clear hvol hP hrb1
  have hfs := hf1.1
  have hfr := hf1.2.1
  have HFS := hide hfs
  have HFR := hide hfr
  clear hfs hfr hf1
  have cHX0 := OwnV.cell (unhide HX) (i := 0) rfl
  have cHX1 := OwnV.cell (unhide HX) (i := 1) rfl
  have cHX2 := OwnV.cell (unhide HX) (i := 2) rfl
  have HML := hide hMl
  have HV2 := hide hvol2
  clear hMl hvol2
  go_wp2_with fail
  clear cHX0 cHX1 cHX2
  refine (implFlood_any step rise _ R _ [(la, lb, pm)] _ ((unhide HR0).below (unhide HZ)) (unhide HQ1r)).mono ?_
  rintro e w7 ⟨a1, n1, cp1, rfl, hr, hb⟩
  replace HW := hide (Below.step (unhide HW) hb)
  replace HZ := hide (Below.step (unhide HZ) hb)
  replace HX := hide (OwnV.step (unhide HX) hb)
  replace HQ1 := hide (OwnV.step (unhide HQ1) hb)
  replace HQ1r := hide ((unhide HQ1r).below hb)
  rw [unhide HFS, unhide HFR]
  obtain ⟨MM, eMM⟩ : ∃ x, x = fRows step rise R [(la, lb, pm)] := ⟨_, rfl⟩
  rw [← eMM] at hr HML HV2
  clear eMM
  have hri := hr.upto.inn
  have HRM := hide hri
  obtain ⟨_, _, ev1, _, _, _⟩ := hri
  simp only [Value.slice.injEq] at ev1
  have en1 : n1 = R.length := ev1.2.1.trans (unhide HML)
  clear ev1
  subst en1
  have zw7 := hb.size
  clear hb hr
  have AHN := Below.alloc1 (w7) (.cells #[.int .i64 step, .int .i64 rise, .slice a1 R.length cp1] 26)
  replace HW := hide (Below.step (unhide HW) AHN)
  replace HZ := hide (Below.step (unhide HZ) AHN)
  replace HX := hide (OwnV.step (unhide HX) AHN)
  replace HQ1 := hide (OwnV.step (unhide HQ1) AHN)
  replace HQ1r := hide ((unhide HQ1r).below AHN)
  replace HRM := hide ((unhide HRM).below AHN)
  have HN := hide (ownV_alloc (w7) #[.int .i64 step, .int .i64 rise, .slice a1 R.length cp1] 26)
  clear AHN
  obtain ⟨V2, eV2⟩ : ∃ V2, V2 = volume step rise MM x := ⟨_, rfl⟩
  have hv2 := unhide HV2
  rw [← eV2] at hv2
  have EV2 := hide eV2
  have dv2 : decide (V < V2) = false := by simp; omega
  clear eV2 hv2 HV2
  obtain ⟨w8, ew8⟩ : ∃ x, x = (w7).alloc (.cells #[.int .i64 step, .int .i64 rise, .slice a1 R.length cp1] 26) := ⟨_, rfl⟩
  rw [← ew8] at HW HZ HX HQ1 HQ1r HRM HN
  have Ew8 := hide ew8
  have zw8 : w7.heap.size + 1 ≤ w8.heap.size := by rw [ew8]; simp
  clear ew8
  go_wp2
  rw [← unhide Ew8]
  clear Ew8
  have rHN0 := fun y : Gr w8 => gr_cell (OwnV.cell (unhide HN) (i := 0) rfl) y
  have rHN1 := fun y : Gr w8 => gr_cell (OwnV.cell (unhide HN) (i := 1) rfl) y
  have rHN2 := fun y : Gr w8 => gr_cell (OwnV.cell (unhide HN) (i := 2) rfl) y
  have rHX0 := fun y : Gr w8 => gr_cell (OwnV.cell (unhide HX) (i := 0) rfl) y
  have rHX1 := fun y : Gr w8 => gr_cell (OwnV.cell (unhide HX) (i := 1) rfl) y
  have rHX2 := fun y : Gr w8 => gr_cell (OwnV.cell (unhide HX) (i := 2) rfl) y
  have S0 := hide fun y : Gr w8 => implRoomsOk_any step rise _ R _ [(la, lb, pm)] y.val (((unhide HR0).below (unhide HZ)).below y.ok) ((unhide HQ1r).below y.ok)
  rw [unhide HRB1] at S0
  have S1 := hide fun y : Gr w8 => implVolume2_any step rise _ MM x y.val ((unhide HRM).below y.ok)
  rw [← unhide EV2] at S1
  have S2 := hide fun y : Gr w8 => specVolume2_any step rise _ R x y.val (((unhide HR0).below (unhide HZ)).below y.ok)
  rw [← unhide EV] at S2
  have gsome := gr_some w8
  refine wp_region_grown (by kernel_rfl) (by kernel_rfl) ?_
  repeat (go_big_quiet_step (fail))
  go_big_quiet_want
  go_big_quiet_op
  go_big_quiet_call (exact calls_grown (unhide S0 _))
  repeat (go_big_quiet_step (fail))
  go_big_quiet_want
  go_big_quiet_op
  go_big_quiet_call (exact calls_grown (unhide S1 _))
  repeat (go_big_quiet_step (fail))
  go_big_quiet_want
  go_big_quiet_op
  go_big_quiet_call (exact calls_grown (unhide S2 _))
  repeat (go_big_quiet_step (fail))
  refine wpQuiet_nil ?_
  intro w9 hw
  obtain ⟨zz, hz⟩ := hw
  have hb : Below w8.heap.size w8 w9 := hz ▸ zz.ok
  replace HW := hide (Below.step (unhide HW) hb)
  replace HZ := hide (Below.step (unhide HZ) hb)
  replace HX := hide (OwnV.step (unhide HX) hb)
  replace HQ1 := hide (OwnV.step (unhide HQ1) hb)
  replace HQ1r := hide ((unhide HQ1r).below hb)
  replace HRM := hide ((unhide HRM).below hb)
  replace HN := hide (OwnV.step (unhide HN) hb)
  have zw9 := hb.size
  clear hb hz zz gsome rHN0 rHN1 rHN2 rHX0 rHX1 rHX2 S0 S1 S2
  clear HN HRM
  clear dv2
  have cHX0 := OwnV.cell (unhide HX) (i := 0) rfl
  have cHX1 := OwnV.cell (unhide HX) (i := 1) rfl
  have cHX2 := OwnV.cell (unhide HX) (i := 2) rfl
  have hzx := (unhide HX).lt
  have HX9 := hide (unhide HX)
  have qx0 := fun o1 o2 o3 o4 => OwnV.cell (OwnV.alloc (OwnV.alloc (OwnV.alloc (OwnV.alloc (unhide HX9) o1) o2) o3) o4) (i := 0) rfl
  have qx1 := fun o1 o2 o3 o4 => OwnV.cell (OwnV.alloc (OwnV.alloc (OwnV.alloc (OwnV.alloc (unhide HX9) o1) o2) o3) o4) (i := 1) rfl
  have qx2 := fun o1 o2 o3 o4 => OwnV.cell (OwnV.alloc (OwnV.alloc (OwnV.alloc (OwnV.alloc (unhide HX9) o1) o2) o3) o4) (i := 2) rfl
  clear HX9
  go_wp2_with fail
  refine (unhide AT4 _ (unhide HW)).mono ?_
  rintro e w' ⟨rfl, hw'⟩
  have hw'' := hw'.symm
  clear hw'
  subst hw''
  go_wp2_with fail
  refine (unhide AT5 _ (unhide HW)).mono ?_
  rintro e w' ⟨rfl, hw'⟩
  have hw'' := hw'.symm
  clear hw'
  subst hw''
  have hq4 : 0 ≤ y4 % 90 ∧ y4 % 90 < 90 := by omega
  have hq5 : 0 ≤ y5 % 6 ∧ y5 % 6 < 6 := by omega
  have hq6 : 0 ≤ y6 % 5 ∧ y6 % 5 < 5 := by omega
  have AT6' := hide fun o => unhide AT6 (w9.alloc o) (Below.step (unhide HW) (Below.alloc1 _ _))
  go_wp2_with fail
  refine (unhide AT6' _).mono ?_
  rintro e w' ⟨rfl, rfl⟩
  generalize y4 % 90 = q4 at *
  generalize y5 % 6 = q5 at *
  have AHM := Below.alloc1 (w9) (.cells #[.int .i64 (1 + q4), .int .i64 0, .int .i64 q5] 41)
  replace HW := hide (Below.step (unhide HW) AHM)
  replace HZ := hide (Below.step (unhide HZ) AHM)
  replace HX := hide (OwnV.step (unhide HX) AHM)
  replace HQ1 := hide (OwnV.step (unhide HQ1) AHM)
  replace HQ1r := hide ((unhide HQ1r).below AHM)
  have HM := hide (ownV_alloc (w9) #[.int .i64 (1 + q4), .int .i64 0, .int .i64 q5] 41)
  clear AHM
  have HMr : Hid (R3 ((w9).alloc (.cells #[.int .i64 (1 + q4), .int .i64 0, .int .i64 q5] 41)) (.slice (some ⟨w9.heap.size, 0, none⟩) 1 1) [(1 + q4, 0, q5)]) := by
    have h := OwnV.recsIn (n := 3) (enc := e3) (L := [(1 + q4, 0, q5)]) (cap := 1) (by rw [rec1_cells]; exact unhide HM) (by simp) (by unfold maxLen; omega)
    exact h
  have k6 : IntKind.i64.wrap (y6 % 5 - 2) = y6 % 5 - 2 := by rw [IntKind.wrap_i64]; omega
  go_wp2_with fail
  clear cHX0 cHX1 cHX2
  clear k6 hzx qx0 qx1 qx2
  obtain ⟨nn, enn⟩ : ∃ b, b = y6 % 5 - 2 := ⟨_, rfl⟩
  rw [← enn]
  clear enn AT4 AT5 AT6 AT6'
  have AHF := Below.alloc1 ((w9).alloc (.cells #[.int .i64 (1 + q4), .int .i64 0, .int .i64 q5] 41)) (.cells #[.int .i64 nn, .int .i64 1] 44)
  replace HW := hide (Below.step (unhide HW) AHF)
  replace HZ := hide (Below.step (unhide HZ) AHF)
  replace HX := hide (OwnV.step (unhide HX) AHF)
  replace HQ1 := hide (OwnV.step (unhide HQ1) AHF)
  replace HQ1r := hide ((unhide HQ1r).below AHF)
  replace HM := hide (OwnV.step (unhide HM) AHF)
  replace HMr := hide ((unhide HMr).below AHF)
  have HF : Hid (OwnV (((w9).alloc (.cells #[.int .i64 (1 + q4), .int .i64 0, .int .i64 q5] 41)).alloc (.cells #[.int .i64 nn, .int .i64 1] 44)) (w9.heap.size + 1) [.int .i64 nn, .int .i64 1]) := by
    have h := ownV_alloc ((w9).alloc (.cells #[.int .i64 (1 + q4), .int .i64 0, .int .i64 q5] 41)) #[.int .i64 nn, .int .i64 1] 44
    simp only [World.size_alloc] at h
    exact h
  clear AHF
  have AHQ2 := Below.alloc1 (((w9).alloc (.cells #[.int .i64 (1 + q4), .int .i64 0, .int .i64 q5] 41)).alloc (.cells #[.int .i64 nn, .int .i64 1] 44)) (.cells #[.int .i64 0, .int .i64 la, .int .i64 0] 37)
  replace HW := hide (Below.step (unhide HW) AHQ2)
  replace HZ := hide (Below.step (unhide HZ) AHQ2)
  replace HX := hide (OwnV.step (unhide HX) AHQ2)
  replace HQ1 := hide (OwnV.step (unhide HQ1) AHQ2)
  replace HQ1r := hide ((unhide HQ1r).below AHQ2)
  replace HM := hide (OwnV.step (unhide HM) AHQ2)
  replace HMr := hide ((unhide HMr).below AHQ2)
  replace HF := hide (OwnV.step (unhide HF) AHQ2)
  have HQ2 : Hid (OwnV ((((w9).alloc (.cells #[.int .i64 (1 + q4), .int .i64 0, .int .i64 q5] 41)).alloc (.cells #[.int .i64 nn, .int .i64 1] 44)).alloc (.cells #[.int .i64 0, .int .i64 la, .int .i64 0] 37)) (w9.heap.size + 1 + 1) [.int .i64 0, .int .i64 la, .int .i64 0]) := by
    have h := ownV_alloc (((w9).alloc (.cells #[.int .i64 (1 + q4), .int .i64 0, .int .i64 q5] 41)).alloc (.cells #[.int .i64 nn, .int .i64 1] 44)) #[.int .i64 0, .int .i64 la, .int .i64 0] 37
    simp only [World.size_alloc] at h
    exact h
  clear AHQ2
  have HQ2r : Hid (R3 ((((w9).alloc (.cells #[.int .i64 (1 + q4), .int .i64 0, .int .i64 q5] 41)).alloc (.cells #[.int .i64 nn, .int .i64 1] 44)).alloc (.cells #[.int .i64 0, .int .i64 la, .int .i64 0] 37)) (.slice (some ⟨w9.heap.size + 1 + 1, 0, none⟩) 1 1) [(0, la, 0)]) := by
    have h := OwnV.recsIn (n := 3) (enc := e3) (L := [(0, la, 0)]) (cap := 1) (by rw [rec1_cells]; exact unhide HQ2) (by simp) (by unfold maxLen; omega)
    exact h
  have AHT := Below.alloc1 ((((w9).alloc (.cells #[.int .i64 (1 + q4), .int .i64 0, .int .i64 q5] 41)).alloc (.cells #[.int .i64 nn, .int .i64 1] 44)).alloc (.cells #[.int .i64 0, .int .i64 la, .int .i64 0] 37)) (.cells #[.slice (some ⟨w9.heap.size + 1 + 1, 0, none⟩) 1 1, .slice (some ⟨w5.heap.size, 0, none⟩) 1 1] 38)
  replace HW := hide (Below.step (unhide HW) AHT)
  replace HZ := hide (Below.step (unhide HZ) AHT)
  replace HX := hide (OwnV.step (unhide HX) AHT)
  replace HQ1 := hide (OwnV.step (unhide HQ1) AHT)
  replace HQ1r := hide ((unhide HQ1r).below AHT)
  replace HM := hide (OwnV.step (unhide HM) AHT)
  replace HMr := hide ((unhide HMr).below AHT)
  replace HF := hide (OwnV.step (unhide HF) AHT)
  replace HQ2 := hide (OwnV.step (unhide HQ2) AHT)
  replace HQ2r := hide ((unhide HQ2r).below AHT)
  have HT : Hid (OwnV (((((w9).alloc (.cells #[.int .i64 (1 + q4), .int .i64 0, .int .i64 q5] 41)).alloc (.cells #[.int .i64 nn, .int .i64 1] 44)).alloc (.cells #[.int .i64 0, .int .i64 la, .int .i64 0] 37)).alloc (.cells #[.slice (some ⟨w9.heap.size + 1 + 1, 0, none⟩) 1 1, .slice (some ⟨w5.heap.size, 0, none⟩) 1 1] 38)) (w9.heap.size + 1 + 1 + 1) [.slice (some ⟨w9.heap.size + 1 + 1, 0, none⟩) 1 1, .slice (some ⟨w5.heap.size, 0, none⟩) 1 1]) := by
    have h := ownV_alloc ((((w9).alloc (.cells #[.int .i64 (1 + q4), .int .i64 0, .int .i64 q5] 41)).alloc (.cells #[.int .i64 nn, .int .i64 1] 44)).alloc (.cells #[.int .i64 0, .int .i64 la, .int .i64 0] 37)) #[.slice (some ⟨w9.heap.size + 1 + 1, 0, none⟩) 1 1, .slice (some ⟨w5.heap.size, 0, none⟩) 1 1] 38
    simp only [World.size_alloc] at h
    exact h
  clear AHT
  have HRR : Hid (RR3 (((((w9).alloc (.cells #[.int .i64 (1 + q4), .int .i64 0, .int .i64 q5] 41)).alloc (.cells #[.int .i64 nn, .int .i64 1] 44)).alloc (.cells #[.int .i64 0, .int .i64 la, .int .i64 0] 37)).alloc (.cells #[.slice (some ⟨w9.heap.size + 1 + 1, 0, none⟩) 1 1, .slice (some ⟨w5.heap.size, 0, none⟩) 1 1] 38)) (.slice (some ⟨w9.heap.size + 1 + 1 + 1, 0, none⟩) 2 2) [[(0, la, 0)], [(la, lb, pm)]]) := by
    refine ⟨_, 2, rfl, Nat.le_refl _, by unfold maxLen; omega, fun r hr => ?_⟩
    match r, hr with
    | 0, _ => exact ⟨_, 0, _, rfl, OwnV.cell (unhide HT) (i := 0) rfl, unhide HQ2r⟩
    | 1, _ => exact ⟨_, 0, _, rfl, OwnV.cell (unhide HT) (i := 1) rfl, unhide HQ1r⟩
  refine (implFirstBad_any step rise _ R _ [(1 + q4, 0, q5)] _ [] _ [[(0, la, 0)], [(la, lb, pm)]] nn 1 _ ((unhide HR0).below (unhide HZ)) (unhide HMr) recsIn_nil (unhide HRR)).mono ?_
  rintro e w10 ⟨rfl, hb⟩
  replace HW := hide (Below.step (unhide HW) hb)
  replace HZ := hide (Below.step (unhide HZ) hb)
  replace HX := hide (OwnV.step (unhide HX) hb)
  replace HQ1 := hide (OwnV.step (unhide HQ1) hb)
  replace HQ1r := hide ((unhide HQ1r).below hb)
  replace HM := hide (OwnV.step (unhide HM) hb)
  replace HMr := hide ((unhide HMr).below hb)
  replace HF := hide (OwnV.step (unhide HF) hb)
  replace HQ2 := hide (OwnV.step (unhide HQ2) hb)
  replace HQ2r := hide ((unhide HQ2r).below hb)
  replace HT := hide (OwnV.step (unhide HT) hb)
  replace HRR := hide ((unhide HRR).below hb)
  have zw10 := hb.size
  simp only [World.size_alloc] at zw10
  clear hb
  obtain ⟨s0, es0⟩ : ∃ q, q = stands step rise R [(1 + q4, 0, q5)] [] [(0, la, 0)] (nn, 1) := ⟨_, rfl⟩
  obtain ⟨s1, es1⟩ : ∃ q, q = stands step rise R [(1 + q4, 0, q5)] [] [(la, lb, pm)] (nn, 1) := ⟨_, rfl⟩
  have hfb : firstBad step rise R [(1 + q4, 0, q5)] [] [[(0, la, 0)], [(la, lb, pm)]] (nn, 1) = if s0 ≠ 0 then 0 else if s1 ≠ 0 then 1 else -1 := by
    by_cases h0 : s0 = 0
    · rw [if_neg (by simpa using h0)]
      by_cases h1 : s1 = 0
      · rw [if_neg (by simpa using h1)]
        refine firstBad_none (by simp) (fun t ht => ?_)
        match t, ht with
        | 0, _ => exact es0.symm.trans h0
        | 1, _ => exact es1.symm.trans h1
      · rw [if_pos h1]
        have h := firstBad_some (step := step) (rise := rise) (R := R) (L := [(1 + q4, 0, q5)]) (T := []) (QQ := [[(0, la, 0)], [(la, lb, pm)]]) (f := (nn, 1)) (k := 1) (by simp) (by simp) (by intro e; exact h1 (es1.trans e)) (fun t ht => by
          have : t = 0 := by omega
          subst this
          exact es0.symm.trans h0)
        simpa using h
    · rw [if_pos h0]
      have h := firstBad_some (step := step) (rise := rise) (R := R) (L := [(1 + q4, 0, q5)]) (T := []) (QQ := [[(0, la, 0)], [(la, lb, pm)]]) (f := (nn, 1)) (k := 0) (by simp) (by simp) (by intro e; exact h0 (es0.trans e)) (fun t ht => by omega)
      simpa using h
  rw [hfb]
  have ES0 := hide es0
  have ES1 := hide es1
  clear hfb es0 es1
  obtain ⟨fb, efb⟩ : ∃ q, q = (if s0 ≠ 0 then (0 : Int) else if s1 ≠ 0 then 1 else -1) := ⟨_, rfl⟩
  rw [← efb]
  have EFB := hide efb
  clear efb
  obtain ⟨w11, ew11⟩ : ∃ x, x = w10 := ⟨_, rfl⟩
  rw [← ew11] at HW HZ HX HQ1 HQ1r HM HMr HF HQ2 HQ2r HT HRR
  have Ew11 := hide ew11
  have zw11 : w10.heap.size ≤ w11.heap.size := by rw [ew11]; simp
  clear ew11
  go_wp2
  rw [← unhide Ew11]
  clear Ew11
  have rHX0 := fun y : Gr w11 => gr_cell (OwnV.cell (unhide HX) (i := 0) rfl) y
  have rHX1 := fun y : Gr w11 => gr_cell (OwnV.cell (unhide HX) (i := 1) rfl) y
  have rHX2 := fun y : Gr w11 => gr_cell (OwnV.cell (unhide HX) (i := 2) rfl) y
  have rHF0 := fun y : Gr w11 => gr_cell (OwnV.cell (unhide HF) (i := 0) rfl) y
  have rHF1 := fun y : Gr w11 => gr_cell (OwnV.cell (unhide HF) (i := 1) rfl) y
  have rHT0 := fun y : Gr w11 => gr_cell (OwnV.cell (unhide HT) (i := 0) rfl) y
  have rHT1 := fun y : Gr w11 => gr_cell (OwnV.cell (unhide HT) (i := 1) rfl) y
  have S0 := hide fun y : Gr w11 => implStands_any step rise _ R _ [(1 + q4, 0, q5)] _ [] _ [(0, la, 0)] nn 1 y.val (((unhide HR0).below (unhide HZ)).below y.ok) ((unhide HMr).below y.ok) recsIn_nil ((unhide HQ2r).below y.ok)
  rw [← unhide ES0] at S0
  have gsome := gr_some w11
  refine wp_region_grown (by kernel_rfl) (by kernel_rfl) ?_
  repeat (go_big_quiet_step (fail))
  go_big_quiet_want
  go_big_quiet_op
  go_big_quiet_call (exact calls_grown (unhide S0 _))
  repeat (go_big_quiet_step (fail))
  refine wpQuiet_nil ?_
  intro w12 hw
  obtain ⟨zz, hz⟩ := hw
  have hb : Below w11.heap.size w11 w12 := hz ▸ zz.ok
  replace HW := hide (Below.step (unhide HW) hb)
  replace HZ := hide (Below.step (unhide HZ) hb)
  replace HX := hide (OwnV.step (unhide HX) hb)
  replace HQ1 := hide (OwnV.step (unhide HQ1) hb)
  replace HQ1r := hide ((unhide HQ1r).below hb)
  replace HM := hide (OwnV.step (unhide HM) hb)
  replace HMr := hide ((unhide HMr).below hb)
  replace HF := hide (OwnV.step (unhide HF) hb)
  replace HQ2 := hide (OwnV.step (unhide HQ2) hb)
  replace HQ2r := hide ((unhide HQ2r).below hb)
  replace HT := hide (OwnV.step (unhide HT) hb)
  replace HRR := hide ((unhide HRR).below hb)
  have zw12 := hb.size
  clear hb hz zz gsome rHX0 rHX1 rHX2 rHF0 rHF1 rHT0 rHT1 S0
  obtain ⟨w13, ew13⟩ : ∃ x, x = w12 := ⟨_, rfl⟩
  rw [← ew13] at HW HZ HX HQ1 HQ1r HM HMr HF HQ2 HQ2r HT HRR
  have Ew13 := hide ew13
  have zw13 : w12.heap.size ≤ w13.heap.size := by rw [ew13]; simp
  clear ew13
  go_wp2
  rw [← unhide Ew13]
  clear Ew13
  have rHX0 := fun y : Gr w13 => gr_cell (OwnV.cell (unhide HX) (i := 0) rfl) y
  have rHX1 := fun y : Gr w13 => gr_cell (OwnV.cell (unhide HX) (i := 1) rfl) y
  have rHX2 := fun y : Gr w13 => gr_cell (OwnV.cell (unhide HX) (i := 2) rfl) y
  have rHF0 := fun y : Gr w13 => gr_cell (OwnV.cell (unhide HF) (i := 0) rfl) y
  have rHF1 := fun y : Gr w13 => gr_cell (OwnV.cell (unhide HF) (i := 1) rfl) y
  have rHT0 := fun y : Gr w13 => gr_cell (OwnV.cell (unhide HT) (i := 0) rfl) y
  have rHT1 := fun y : Gr w13 => gr_cell (OwnV.cell (unhide HT) (i := 1) rfl) y
  have S0 := hide fun y : Gr w13 => implStands_any step rise _ R _ [(1 + q4, 0, q5)] _ [] _ [(la, lb, pm)] nn 1 y.val (((unhide HR0).below (unhide HZ)).below y.ok) ((unhide HMr).below y.ok) recsIn_nil ((unhide HQ1r).below y.ok)
  rw [← unhide ES1] at S0
  have gsome := gr_some w13
  refine wp_region_grown (by kernel_rfl) (by kernel_rfl) ?_
  repeat (go_big_quiet_step (fail))
  go_big_quiet_want
  go_big_quiet_op
  go_big_quiet_call (exact calls_grown (unhide S0 _))
  repeat (go_big_quiet_step (fail))
  refine wpQuiet_nil ?_
  intro w14 hw
  obtain ⟨zz, hz⟩ := hw
  have hb : Below w13.heap.size w13 w14 := hz ▸ zz.ok
  replace HW := hide (Below.step (unhide HW) hb)
  replace HZ := hide (Below.step (unhide HZ) hb)
  replace HX := hide (OwnV.step (unhide HX) hb)
  replace HQ1 := hide (OwnV.step (unhide HQ1) hb)
  replace HQ1r := hide ((unhide HQ1r).below hb)
  replace HM := hide (OwnV.step (unhide HM) hb)
  replace HMr := hide ((unhide HMr).below hb)
  replace HF := hide (OwnV.step (unhide HF) hb)
  replace HQ2 := hide (OwnV.step (unhide HQ2) hb)
  replace HQ2r := hide ((unhide HQ2r).below hb)
  replace HT := hide (OwnV.step (unhide HT) hb)
  replace HRR := hide ((unhide HRR).below hb)
  have zw14 := hb.size
  clear hb hz zz gsome rHX0 rHX1 rHX2 rHF0 rHF1 rHT0 rHT1 S0
  have hefb := unhide EFB
  clear EFB
  by_cases h0 : s0 = 0
  · by_cases h1 : s1 = 0
    · rw [if_neg (by simpa using h0), if_neg (by simpa using h1)] at hefb
      subst h0 h1 hefb
      go_wp2
      go_ret
      exact ⟨rfl, unhide HW⟩
    · rw [if_neg (by simpa using h0), if_pos h1] at hefb
      subst h0 hefb
      have z1 : (s1 == 0) = false := by simp [h1]
      go_wp2
      go_ret
      exact ⟨rfl, unhide HW⟩
  · rw [if_pos h0] at hefb
    subst hefb
    have z0 : (s0 == 0) = false := by simp [h0]
    go_wp2
    go_ret
    exact ⟨rfl, unhide HW⟩

end Go.Proofs.Yticcjdcglfiggaa

/- How a slice of bytes that came in is opened. -/
namespace Go.Proofs.Yticcjdcglfiggaa
open Go.ChangeShapes Go.WideShapes Go.ChangeAt Go.RowKit

set_option maxRecDepth 100000 in
theorem open_bytes {H : Type} {enc : TypeId × Value → H} {W : World} {base : Nat} {v0 : Value} {d0 : DataW H} {p0 : List MemPlace} (hv : Value.okWide Try.prog W .any base 22 v0)
    (h0 : DataW.Trod enc Try.prog W 0 (fun _ => true) true 22 v0 d0 p0) : ∃ n, BytesIn W.heap.size W v0 n := by
  obtain ⟨a0, len, cap, rfl⟩ := okWide_slice Try.underlying22 hv
  obtain ⟨fuel, hf⟩ := h0
  rcases open_ints Try.underlying22 Try.underlying5 (by kernel_rfl) hf with ⟨hcs, _⟩ | ⟨x, l, c, zs, hcs, _, hl, hm, hz, _, hcell, hwz⟩
  · simp [Value.cells] at hcs
    obtain ⟨rfl, rfl, rfl⟩ := hcs
    exact ⟨0, none, 0, rfl, Nat.le_refl _, Nat.zero_le _, fun i hi => by omega⟩
  · simp [Value.cells] at hcs
    obtain ⟨rfl, rfl, rfl⟩ := hcs
    simp only [if_true] at hz
    refine ⟨len, some x, cap, rfl, hl, hm, fun i hi => ?_⟩
    obtain ⟨b, o, sp⟩ := x
    have hs : sp = none := by simpa [Addr.add] using World.cell?_spot (hcell 0 (by omega))
    subst hs
    have hc := hcell i (by omega)
    rw [add_plain] at hc
    have hb := bounds_u8 (hwz (zs.getD i 0) (by rw [getD_lt (show i < zs.length by omega)]; exact List.getElem_mem _))
    exact ⟨b, o, zs.getD i 0, rfl, lt_of_cell hc, hc, hb.1, by omega⟩

end Go.Proofs.Yticcjdcglfiggaa
