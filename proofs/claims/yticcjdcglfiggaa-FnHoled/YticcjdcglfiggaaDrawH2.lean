/- The specification's l1DrawHull: whatever the bytes, it makes a right hull. -/
import Derived.Test.YticcjdcglfiggaaDrawHull
namespace Go.Proofs.Yticcjdcglfiggaa
open Go.RowKit

/-- Rows of one length, all of their numbers in 0 .. 50. -/
def Even (wd : Nat) (R : List (List Int)) : Prop := ∀ r, r < R.length → (R.getD r []).length = wd ∧ ((R.getD r []).all fun x => inB x 0 50) = true

theorem Even.push {wd : Nat} {R : List (List Int)} {row : List Int} (h : Even wd R) (h1 : row.length = wd) (h2 : (row.all fun x => inB x 0 50) = true) : Even wd (R ++ [row]) := fun r hr => by
  rw [getD_snoc]
  by_cases hlt : r < R.length
  · rw [if_pos hlt]; exact h r hlt
  · rw [if_neg hlt, if_pos (by simp at hr; omega)]; exact ⟨h1, h2⟩

/-- What is told of a drawn hull. -/
def drawnHull (step rise : Int) (R : List (List Int)) : Prop := hullOk step rise R = true ∧ step ≤ 12 ∧ rise ≤ 5

theorem even_ok {step rise : Int} {wd : Nat} {R : List (List Int)} (h : Even wd R) (h1 : 1 ≤ step) (h2 : step ≤ 100) (h3 : 1 ≤ rise) (h4 : rise ≤ 20) (h5 : 2 ≤ R.length) (h6 : R.length ≤ 12) (h7 : 2 ≤ wd) (h8 : wd ≤ 10) : hullOk step rise R = true := by
  refine hullOk_mk (inB_mk h1 h2) (inB_mk h3 h4) (inB_mk (by omega) (by omega)) (fun r hr => ?_)
  rw [(h 0 (by omega)).1]
  exact rowOk_mk (h r hr).1 (inB_mk (by omega) (by omega)) (h r hr).2

theorem all_snoc {xs : List Int} {x : Int} (h : (xs.all fun x => inB x 0 50) = true) (h0 : 0 ≤ x) (h1 : x ≤ 50) : ((xs ++ [x]).all fun x => inB x 0 50) = true := by
  rw [List.all_append, h]
  simp [inB_mk h0 h1]

theorem ints_snoc (xs : List Int) (x : Int) : ints (xs ++ [x]) = ints xs ++ [.int .i64 x] := by simp [ints]

/-- What holds at the head of the outer loop. -/
structure DrawSt (w wr : World) (cb nb M : Nat) (v : Value) (step rise : Int) (ov : Value) (R : List (List Int)) : Prop where
  res : OwnV wr w.heap.size [.int .i64 0, .int .i64 0, .slice none 0 0]
  box : OwnV wr M [.int .i64 step, .int .i64 rise, ov]
  grow : Grow 31 (M + 1) wr ov R
  cur : Cur wr cb v nb
  kept : Kept (fun b => b = cb) w wr
  lt1 : cb < w.heap.size
  lt2 : w.heap.size < M

theorem DrawSt.next {w wr w' : World} {cb nb M : Nat} {v : Value} {step rise : Int} {ov : Value} {R : List (List Int)} (h : DrawSt w wr cb nb M v step rise ov R) (hk : Kept (fun b => b = cb) wr w') (hc : Cur w' cb v nb) : DrawSt w w' cb nb M v step rise ov R :=
  ⟨h.res.kept hk (by have := h.lt1; omega), h.box.kept hk (by have := h.lt1; have := h.lt2; omega), h.grow.kept hk (fun g hg _ e => by have := h.lt1; have := h.lt2; omega), hc, h.kept.trans hk, h.lt1, h.lt2⟩

theorem DrawSt.far {w wr : World} {cb nb M : Nat} {v : Value} {step rise : Int} {ov : Value} {R : List (List Int)} (h : DrawSt w wr cb nb M v step rise ov R) : cb < wr.heap.size ∧ M < wr.heap.size := ⟨h.cur.lt, h.box.lt⟩

/-- The round's end: the row is laid behind the others. -/
theorem DrawSt.push {w wo wi w2 : World} {cb nb M : Nat} {v : Value} {step rise : Int} {ao : Option Addr} {cap : Nat} {R : List (List Int)} {row : List Int} {g rcap g' cap' : Nat} {vals : List Value} {o : Obj}
    (h : DrawSt w wo cb nb M v step rise (.slice ao R.length cap) R)
    (hk : Kept (fun b => b = cb ∨ wo.heap.size ≤ b) wo wi) (hc : Cur wi cb v nb)
    (hr : ∀ r, r < R.length → ∃ g cap', vals[r]? = some (.slice (some ⟨g, 0, none⟩) (R.getD r []).length cap') ∧ (R.getD r []).length ≤ cap' ∧ cap' ≤ maxLen ∧ OwnV wi g (ints (R.getD r [])) ∧ M + 1 ≤ g ∧ (Value.slice ao R.length cap).ownBlock ≠ some g)
    (hvl : vals.length = R.length) (ho : OwnV wi g (ints row)) (hg : wo.heap.size ≤ g) (hc1 : row.length ≤ rcap) (hc2 : rcap ≤ maxLen)
    (hne : (Value.slice ao R.length cap).ownBlock ≠ some g) (hbl : ∀ k, (Value.slice ao R.length cap).ownBlock = some k → M + 1 ≤ k)
    (hown : w2.ownsRow (M + 1) 31 1 (.slice (some ⟨g', 0, none⟩) (R.length + 1) cap') (R.length + 1) (vals ++ [.slice (some ⟨g, 0, none⟩) row.length rcap])) (hgrow : (wi.alloc o).grownBy w2 (Value.slice ao R.length cap).ownBlock)
    (hat : (Value.slice ao R.length cap).ownBlock = some g' ∨ g' = wi.heap.size + 1) :
    DrawSt w (w2.setCell ⟨M, 2, none⟩ (.slice (some ⟨g', 0, none⟩) (R.length + 1) cap')) cb nb M v step rise (.slice (some ⟨g', 0, none⟩) (R.length + 1) cap') (R ++ [row]) := by
  have hf := h.far
  have l1 := h.lt1
  have l2 := h.lt2
  have K2 : Kept (fun b => M + 1 ≤ b) wi w2 := ((Kept.refl _ wi).alloc o).grown hgrow hbl
  have K3 : Kept (fun b => M ≤ b) wi (w2.setCell ⟨M, 2, none⟩ (.slice (some ⟨g', 0, none⟩) (R.length + 1) cap')) := Kept.setCell (T := fun b => M ≤ b) (p := ⟨M, 2, none⟩) (K2.mono (fun _ _ h => Nat.le_of_succ_le h)) (Nat.le_refl _) _
  have G2 := Grow.push hr hvl (Below.alloc1 wi o) ho (by omega) hne hc1 hc2 (by omega) hown hgrow hat
  refine ⟨(h.res.kept hk (by omega)).kept K3 (by omega), ((h.box.kept hk (by omega)).kept K2 (by omega)).set 2 _ (by simp), ?_, hc.kept K3 (fun b hb => by omega), ?_, l1, l2⟩
  · exact G2.kept ((Kept.refl (fun b => b = M) w2).setCell (p := ⟨M, 2, none⟩) rfl _) (fun x hx _ e => by omega)
  · have T1 : Kept (fun b => b = cb ∨ w.heap.size ≤ b) w wi := (h.kept.mono (fun _ _ e => Or.inl e)).trans (hk.mono (fun _ _ e => e.imp id (fun e => by have := h.kept.size; omega)))
    have T2 := T1.trans (K3.mono (fun _ _ e => Or.inr (by omega)))
    exact T2.mono (fun k hk e => by rcases e with e | e <;> omega)

theorem DrawSt.out (w : World) (N : Nat) (x y z : Value) : Kept (fun b => b = N) w (((w.setCell ⟨N, 0, none⟩ x).setCell ⟨N, 1, none⟩ y).setCell ⟨N, 2, none⟩ z) :=
  (((Kept.refl (fun b => b = N) w).setCell (p := ⟨N, 0, none⟩) rfl _).setCell (p := ⟨N, 1, none⟩) rfl _).setCell (p := ⟨N, 2, none⟩) rfl _

set_option maxHeartbeats 6400000 in
theorem l1DrawHull_any (cb nb : Nat) (v : Value) (w : World) (h : Cur w cb v nb) (hn : nb ≤ 1048576) :
    Calls Try.prog 49 #[.pointer (some ⟨cb, 0, none⟩)] w fun e w' => ∃ step rise R ao n cap, e = .returned (hullV step rise (.slice ao n cap)) ∧ Grow 31 w.heap.size w' (.slice ao n cap) R ∧ drawnHull step rise R ∧ Cur w' cb v nb ∧ Kept (fun b => b = cb) w w' := by
  have hlt := h.lt
  have A1 := Below.alloc1 w (.cells #[.int .i64 0, .int .i64 0, .slice none 0 0] 26)
  have O1 : OwnV (w.alloc (.cells #[.int .i64 0, .int .i64 0, .slice none 0 0] 26)) w.heap.size [.int .i64 0, .int .i64 0, .slice none 0 0] := ⟨_, _, Go.Deep.blk_alloc_new _ _, fun i _ => by simp⟩
  have H1 := hide (l1Below_any cb nb v 12 _ (h.below A1) hn (by omega) (by omega))
  have HK1 : Hid (Kept (fun b => b = cb) w (w.alloc (.cells #[.int .i64 0, .int .i64 0, .slice none 0 0] 26))) := kept_of_below A1
  have HO1 := hide O1
  clear h A1 O1
  go_enter Try.func49, Try.ntmps49
  go_wp2_with fail
  refine (unhide H1).mono ?_
  rintro e w2 ⟨a, rfl, ha0, ha1, hc, hk⟩
  have HC2 := hide hc
  have HK2 := hide ((unhide HK1).trans hk)
  have HO2 := hide ((unhide HO1).kept hk (by omega))
  clear hc hk H1 HK1 HO1
  go_wp2_with fail
  refine (l1Below_any cb nb v 5 w2 (unhide HC2) hn (by omega) (by omega)).mono ?_
  rintro e w3 ⟨b, rfl, hb0, hb1, hc, hk⟩
  have hz3 : w.heap.size < w3.heap.size := ((unhide HO2).kept hk (by omega)).lt
  have A4 := Below.alloc1 w3 (.cells #[.int .i64 (1 + a), .int .i64 (1 + b), .slice none 0 0] 26)
  have D4 : DrawSt w (w3.alloc (.cells #[.int .i64 (1 + a), .int .i64 (1 + b), .slice none 0 0] 26)) cb nb w3.heap.size v (1 + a) (1 + b) (.slice none 0 0) [] :=
    ⟨((unhide HO2).kept hk (by omega)).below A4 hz3, ⟨_, _, Go.Deep.blk_alloc_new _ _, fun i _ => by simp⟩, Grow.start _ _ _, hc.below A4, ((unhide HK2).trans hk).alloc _, hlt, hz3⟩
  have HD4 := hide D4
  have H5 := hide (l1Below_any cb nb v 6 _ D4.cur hn (by omega) (by omega))
  clear hc hk A4 D4 HC2 HK2 HO2
  go_wp2_with fail
  refine (unhide H5).mono ?_
  rintro e w5 ⟨p, rfl, hp0, hp1, hc, hk⟩
  have HD5 := hide ((unhide HD4).next hk hc)
  clear hc hk H5 HD4
  go_wp2_with fail
  refine (l1Below_any cb nb v 6 w5 (unhide HD5).cur hn (by omega) (by omega)).mono ?_
  rintro e w6 ⟨q, rfl, hq0, hq1, hc, hk⟩
  have HD6 := hide ((unhide HD5).next hk hc)
  clear hc hk HD5
  go_wp2_with fail
  refine (l1Once_any cb nb v 20 w6 (unhide HD6).cur hn (by omega) (by omega)).mono ?_
  rintro e w7 ⟨o, rfl, hc, hk⟩
  have HD7 := hide ((unhide HD6).next hk hc)
  clear hc hk HD6
  cases o with
  | false =>
    go_wp2
    go_loopg [6] 12 (fun g sv wr => ∃ k : Nat, ∃ R ov, (k : Int) ≤ 2 + p ∧ g = 12 - k ∧ sv = .int .i64 k ∧ R.length = k ∧ Even (2 + q).toNat R ∧ DrawSt w wr cb nb w3.heap.size v (1 + a) (1 + b) ov R)
    case atStart => exact ⟨0, [], _, by omega, rfl, rfl, rfl, fun r hr => by simp at hr, unhide HD7⟩
    case round =>
      obtain ⟨k, R, ov, hkN, rfl, rfl, hRk, hE, hD⟩ := hrel
      have HD := hide hD
      have HE := hide hE
      have HRK := hide hRk
      clear hD hE hRk
      by_cases hkn : (k : Int) < 2 + p
      · obtain ⟨wo, ewo⟩ : ∃ wo : World, wo = wr := ⟨_, rfl⟩
        subst ewo
        obtain ⟨ao, cap, eov, _, _, _⟩ := (unhide HD).grow.rowsIn
        subst eov
        obtain ⟨vals0, hvo0, _⟩ := (unhide HD).grow
        have HDO := hide hvo0
        clear hvo0
        have hfar := (unhide HD).far
        have l1 := (unhide HD).lt1
        have l2 := (unhide HD).lt2
        have AE := Below.alloc1 wo (.cells #[] 3)
        have KE : Hid (Kept (fun b => b = cb ∨ wo.heap.size ≤ b) wo (wo.alloc (.cells #[] 3))) := kept_of_below AE
        have OE : Hid ((wo.alloc (.cells #[] 3)).ownsRow wo.heap.size 3 1 (.slice (some ⟨wo.heap.size, 0, none⟩) 0 0) 0 (ints [])) :=
          ⟨rfl, Or.inr ⟨wo.heap.size, 0, #[], rfl, Nat.le_refl _, Go.Deep.blk_alloc_new _ _, Nat.le_refl _, Nat.zero_le _, rfl, rfl⟩⟩
        have H8 := hide (l1Below_any cb nb v 8 _ ((unhide HD).cur.below AE) hn (by omega) (by omega))
        clear AE
        go_wp2_with fail
        refine (unhide H8).mono ?_
        rintro e w8 ⟨x, rfl, hx0, hx1, hc, hk⟩
        have HC8 := hide hc
        have HK8 : Hid (Kept (fun b => b = cb ∨ wo.heap.size ≤ b) wo w8) := (unhide KE).trans (hk.mono (fun _ _ e => Or.inl e))
        have HO8 := hide (ownsRow_kept (unhide OE) hk (fun g hg _ _ e => by omega))
        clear hc hk H8 KE OE
        go_wp2
        go_loopg [7, 8, 9] 10 (fun g rv xv kv wr => ∃ j : Nat, ∃ row x, (j : Int) ≤ 2 + q ∧ g = 10 - j ∧ kv = .int .i64 j ∧ xv = .int .i64 x ∧ 0 ≤ x ∧ x ≤ 50 ∧ Hid (row.length = j ∧ (row.all fun x => inB x 0 50) = true) ∧ wr.ownsRow wo.heap.size 3 1 rv j (ints row) ∧ Cur wr cb v nb ∧ Kept (fun b => b = cb ∨ wo.heap.size ≤ b) wo wr)
        case atStart => exact ⟨0, [], x, by omega, rfl, rfl, rfl, hx0, by omega, ⟨rfl, rfl⟩, unhide HO8, unhide HC8, unhide HK8⟩
        case round =>
          obtain ⟨j, row, y, hjW, rfl, rfl, rfl, hy0, hy1, HR, hO, hC, hK⟩ := hrel
          have HO := hide hO
          have HC := hide hC
          have HK := hide hK
          have hsz := hK.size
          clear hO hC hK HC8 HK8 HO8 hx0 hx1
          by_cases hjn : (j : Int) < 2 + q
          · obtain ⟨i0, hi, hz0, hz1, hz2⟩ := info_parts Try.info3
            go_wp2_with (at_builtin; refine wpList_append_own _ rfl _ _ 31 rfl wo.heap.size 3 i0 (.int .i64 0) 1 8 Try.underlying31 hi hz0 hz1 hz2 rfl (by decide) _ _ _ rfl ((unhide HO).alloc _) ⟨wr.heap.size, 0, none⟩ 1 1 [.int .i64 y] rfl rfl ?c1 ?c2 ?c3 ?c4 ?c5 ?_)
            case c1 => exact cell_one_new _ _ _
            case c2 => intro u hu; simp at hu; subst hu; rfl
            case c3 => unfold maxLen; omega
            case c4 => omega
            case c5 => simp; omega
            intro v' wa hown' hgrow _
            have HOa : Hid (wa.ownsRow wo.heap.size 3 1 v' (j + 1) (ints (row ++ [y]))) := by show World.ownsRow _ _ _ _ _ _ _; rw [ints_snoc]; exact hown'
            have KA : Kept (fun b => wo.heap.size ≤ b) wr wa := ((Kept.refl _ wr).alloc _).grown hgrow (fun k hk => ((unhide HO).lt k hk).1)
            have HKa : Hid (Kept (fun b => b = cb ∨ wo.heap.size ≤ b) wo wa) := (unhide HK).trans (KA.mono (fun _ _ e => Or.inr e))
            have HCa := hide ((unhide HC).kept KA (fun b hb => by omega))
            have HRa : Hid ((row ++ [y]).length = j + 1 ∧ ((row ++ [y]).all fun x => inB x 0 50) = true) := ⟨by simp [HR.out.1], all_snoc HR.out.2 hy0 hy1⟩
            clear hown' hgrow KA HO HC HK HR hi hz0 hz1 hz2
            go_wp2_with fail
            refine (l1Below_any cb nb v 6 wa (unhide HCa) hn (by omega) (by omega)).mono ?_
            rintro e wb ⟨z, rfl, hz0, hz1, hc, hk⟩
            have HCb := hide hc
            have HKb : Hid (Kept (fun b => b = cb ∨ wo.heap.size ≤ b) wo wb) := (unhide HKa).trans (hk.mono (fun _ _ e => Or.inl e))
            have HOb := hide (ownsRow_kept (unhide HOa) hk (fun g hg _ _ e => by omega))
            clear hc hk HCa HKa HOa
            go_wp2_with fail
            refine (l1Once_any cb nb v 15 wb (unhide HCb) hn (by omega) (by omega)).mono ?_
            rintro e wc ⟨bb, rfl, hc, hk⟩
            have HCc := hide hc
            have HKc : Hid (Kept (fun b => b = cb ∨ wo.heap.size ≤ b) wo wc) := (unhide HKb).trans (hk.mono (fun _ _ e => Or.inl e))
            have HOc := hide (ownsRow_kept (unhide HOb) hk (fun g hg _ _ e => by omega))
            clear hc hk HCb HKb HOb
            cases bb with
            | true =>
              go_wp2_with fail
              refine (l1Below_any cb nb v 10 wc (unhide HCc) hn (by omega) (by omega)).mono ?_
              rintro e wd ⟨z2, rfl, hz20, hz21, hc, hk⟩
              have HCd := hide hc
              have HKd : Hid (Kept (fun b => b = cb ∨ wo.heap.size ≤ b) wo wd) := (unhide HKc).trans (hk.mono (fun _ _ e => Or.inl e))
              have HOd := hide (ownsRow_kept (unhide HOc) hk (fun g hg _ _ e => by omega))
              clear hc hk HCc HKc HOc
              go_wp2
              go_roundg (10 - (j + 1))
              case measure => omega
              case rel => exact ⟨j + 1, _, z2, by omega, rfl, by go_num, rfl, by omega, by omega, HRa, unhide HOd, unhide HCd, unhide HKd⟩
            | false =>
              by_cases h50 : 50 < y + z
              · go_wp2
                go_roundg (10 - (j + 1))
                case measure => omega
                case rel => exact ⟨j + 1, _, 50, by omega, rfl, by go_num, rfl, by omega, by omega, HRa, unhide HOc, unhide HCc, unhide HKc⟩
              · go_wp2
                go_roundg (10 - (j + 1))
                case measure => omega
                case rel => exact ⟨j + 1, _, y + z, by omega, rfl, by go_num, rfl, by omega, by omega, HRa, unhide HOc, unhide HCc, unhide HKc⟩
          · have hjj : (j : Int) = 2 + q := by omega
            obtain ⟨hrl, hra⟩ := HR.out
            subst hrl
            obtain ⟨g1, cap1, hv, hg1, hcap1, hcap2, hov1⟩ : ∃ g1 cap1, u7 = .slice (some ⟨g1, 0, none⟩) row.length cap1 ∧ wo.heap.size ≤ g1 ∧ row.length ≤ cap1 ∧ cap1 ≤ maxLen ∧ OwnV wr g1 (ints row) := by
              obtain ⟨_, h2⟩ := unhide HO
              rcases h2 with ⟨_, h0⟩ | ⟨g1, cap1, cur, hv, hg, hh, hc, hm', hs, ht⟩
              · omega
              · refine ⟨g1, cap1, hv, hg, hc, hm', cur, _, hh, fun i hi => ?_⟩
                rw [← ht]
                rw [ints_length] at hi
                simp [hi]
            obtain ⟨vals, hvo, hvr⟩ := (unhide HD).grow.kept (unhide HK) (fun g hg hl e => by rcases e with e | e <;> omega)
            have hbx := (unhide HD).box.kept (unhide HK) (by omega)
            have t2 := hbx.cell (i := 2) rfl
            have HBX := hide hbx
            have HVO := hide hvo
            have HVR := hide hvr
            have HV1 := hide hov1
            obtain ⟨i1, hi, hz0, hz1, hz2⟩ := info_parts Try.info31
            have hkR1 : R.length ≤ 12 := by have := unhide HRK; omega
            have HJJ := hide hjj
            have hrow2 : 2 ≤ row.length := by omega
            have hrow3 : row.length ≤ 10 := by omega
            have HRA : Hid ((row.all fun x => inB x 0 50) = true) := hra
            clear hbx hvo hvr hov1 HO HR hra hjj
            subst hv
            go_wp2_with (at_builtin; refine wpList_append_lies _ rfl _ _ 24 rfl (w3.heap.size + 1) 31 i1 (.slice none 0 0) 1 24 Try.underlying24 hi hz0 hz1 hz2 rfl (by decide) (.slice ao R.length cap) R.length vals rfl ((unhide HVO).alloc _) ⟨wr.heap.size, 0, none⟩ 1 1 [.slice (some ⟨g1, 0, none⟩) row.length cap1] rfl rfl (cell_one_new _ _ _) (by simp [Value.oneCell']) (by omega) (by unfold maxLen; omega) (by omega) (by simp; omega) (wr.heap.size + 1) (by simp) ?_; intro g' cap' w2 hown' hgrow hat _; have hbl : ∀ k, (Value.slice ao R.length cap).ownBlock = some k → w3.heap.size + 1 ≤ k := (fun k hk => ((unhide HVO).lt k hk).1); have hbx2 : OwnV w2 w3.heap.size [.int .i64 (1 + a), .int .i64 (1 + b), .slice ao R.length cap] := (((unhide HBX).alloc _).of_block (hgrow.block _ (by simp; omega) (fun e => by have := hbl _ e.symm; omega))); have t2' := hbx2.cell (i := 2) rfl; have f2' := hbx2.frozen 2; have hne1 : (Value.slice ao R.length cap).ownBlock ≠ some g1 := (fun e => by have := ((unhide HDO).lt g1 e).2; omega); have HN := hide (DrawSt.push (unhide HD) (unhide HK) (unhide HC) (unhide HVR) (by have := (unhide HVO).1; omega) (unhide HV1) hg1 hcap1 hcap2 hne1 hbl hown' hgrow hat); have HEN := hide ((unhide HE).push (show row.length = (2 + q).toNat by have := unhide HJJ; omega) (unhide HRA)); clear hown' hgrow hat hbl hbx2 hne1)
            go_roundg (12 - (k + 1))
            case measure => omega
            case rel => exact ⟨k + 1, _, _, by omega, rfl, by go_num, by rw [List.length_append, unhide HRK]; rfl, unhide HEN, unhide HN⟩
      · have hkk : (k : Int) = 2 + p := by omega
        have hO := (unhide HD).res
        have hB := (unhide HD).box
        have hok : drawnHull (1 + a) (1 + b) R := ⟨even_ok (unhide HE) (by omega) (by omega) (by omega) (by omega) (by rw [unhide HRK]; omega) (by rw [unhide HRK]; omega) (by omega) (by omega), by omega, by omega⟩
        obtain ⟨ao, cap, eov, _, _, _⟩ := (unhide HD).grow.rowsIn
        subst eov
        have r0 := hO.cell (i := 0) rfl
        have r1 := hO.cell (i := 1) rfl
        have r2 := hO.cell (i := 2) rfl
        have s0 := hO.frozen 0
        have s1 := hO.frozen 1
        have s2 := hO.frozen 2
        have t0 := hB.cell (i := 0) rfl
        have t1 := hB.cell (i := 1) rfl
        have t2 := hB.cell (i := 2) rfl
        have HOK := hide hok
        have HS : Hid (DrawSt w wr cb nb w3.heap.size v (1 + a) (1 + b) (.slice ao R.length cap) R) := unhide HD
        clear hO hB hok hkk HD
        go_wp2
        refine bodyPost_ret (v := .agg #[.int .i64 (1 + a), .int .i64 (1 + b), .slice ao R.length cap]) (by simp [results, Try.results49, go_sem, r0, r1, r2]) rfl ⟨1 + a, 1 + b, R, ao, R.length, cap, rfl, ?_, unhide HOK, ?_, ?_⟩
        · exact ((unhide HS).grow.kept (DrawSt.out wr w.heap.size _ _ _) (fun g hg _ e => by have := (unhide HS).lt2; omega)).mono (by have := (unhide HS).lt2; omega)
        · exact (unhide HS).cur.kept (DrawSt.out wr w.heap.size _ _ _) (fun b e => by have := (unhide HS).lt1; omega)
        · exact (((unhide HS).kept.mono (T' := fun b => b = cb ∨ w.heap.size ≤ b) (fun _ _ e => Or.inl e)).trans ((DrawSt.out wr w.heap.size _ _ _).mono (fun _ _ e => Or.inr (by omega)))).mono (fun k hk e => by rcases e with e | e <;> omega)
  | true =>
    go_wp2
    go_loopg [6] 12 (fun g sv wr => ∃ k : Nat, ∃ R ov, (k : Int) ≤ 12 ∧ g = 12 - k ∧ sv = .int .i64 k ∧ R.length = k ∧ Even ((10 : Int)).toNat R ∧ DrawSt w wr cb nb w3.heap.size v (1 + a) (1 + b) ov R)
    case atStart => exact ⟨0, [], _, by omega, rfl, rfl, rfl, fun r hr => by simp at hr, unhide HD7⟩
    case round =>
      obtain ⟨k, R, ov, hkN, rfl, rfl, hRk, hE, hD⟩ := hrel
      have HD := hide hD
      have HE := hide hE
      have HRK := hide hRk
      clear hD hE hRk
      by_cases hkn : (k : Int) < 12
      · obtain ⟨wo, ewo⟩ : ∃ wo : World, wo = wr := ⟨_, rfl⟩
        subst ewo
        obtain ⟨ao, cap, eov, _, _, _⟩ := (unhide HD).grow.rowsIn
        subst eov
        obtain ⟨vals0, hvo0, _⟩ := (unhide HD).grow
        have HDO := hide hvo0
        clear hvo0
        have hfar := (unhide HD).far
        have l1 := (unhide HD).lt1
        have l2 := (unhide HD).lt2
        have AE := Below.alloc1 wo (.cells #[] 3)
        have KE : Hid (Kept (fun b => b = cb ∨ wo.heap.size ≤ b) wo (wo.alloc (.cells #[] 3))) := kept_of_below AE
        have OE : Hid ((wo.alloc (.cells #[] 3)).ownsRow wo.heap.size 3 1 (.slice (some ⟨wo.heap.size, 0, none⟩) 0 0) 0 (ints [])) :=
          ⟨rfl, Or.inr ⟨wo.heap.size, 0, #[], rfl, Nat.le_refl _, Go.Deep.blk_alloc_new _ _, Nat.le_refl _, Nat.zero_le _, rfl, rfl⟩⟩
        have H8 := hide (l1Below_any cb nb v 8 _ ((unhide HD).cur.below AE) hn (by omega) (by omega))
        clear AE
        go_wp2_with fail
        refine (unhide H8).mono ?_
        rintro e w8 ⟨x, rfl, hx0, hx1, hc, hk⟩
        have HC8 := hide hc
        have HK8 : Hid (Kept (fun b => b = cb ∨ wo.heap.size ≤ b) wo w8) := (unhide KE).trans (hk.mono (fun _ _ e => Or.inl e))
        have HO8 := hide (ownsRow_kept (unhide OE) hk (fun g hg _ _ e => by omega))
        clear hc hk H8 KE OE
        go_wp2
        go_loopg [7, 8, 9] 10 (fun g rv xv kv wr => ∃ j : Nat, ∃ row x, (j : Int) ≤ (10 : Int) ∧ g = 10 - j ∧ kv = .int .i64 j ∧ xv = .int .i64 x ∧ 0 ≤ x ∧ x ≤ 50 ∧ Hid (row.length = j ∧ (row.all fun x => inB x 0 50) = true) ∧ wr.ownsRow wo.heap.size 3 1 rv j (ints row) ∧ Cur wr cb v nb ∧ Kept (fun b => b = cb ∨ wo.heap.size ≤ b) wo wr)
        case atStart => exact ⟨0, [], x, by omega, rfl, rfl, rfl, hx0, by omega, ⟨rfl, rfl⟩, unhide HO8, unhide HC8, unhide HK8⟩
        case round =>
          obtain ⟨j, row, y, hjW, rfl, rfl, rfl, hy0, hy1, HR, hO, hC, hK⟩ := hrel
          have HO := hide hO
          have HC := hide hC
          have HK := hide hK
          have hsz := hK.size
          clear hO hC hK HC8 HK8 HO8 hx0 hx1
          by_cases hjn : (j : Int) < (10 : Int)
          · obtain ⟨i0, hi, hz0, hz1, hz2⟩ := info_parts Try.info3
            go_wp2_with (at_builtin; refine wpList_append_own _ rfl _ _ 31 rfl wo.heap.size 3 i0 (.int .i64 0) 1 8 Try.underlying31 hi hz0 hz1 hz2 rfl (by decide) _ _ _ rfl ((unhide HO).alloc _) ⟨wr.heap.size, 0, none⟩ 1 1 [.int .i64 y] rfl rfl ?c1 ?c2 ?c3 ?c4 ?c5 ?_)
            case c1 => exact cell_one_new _ _ _
            case c2 => intro u hu; simp at hu; subst hu; rfl
            case c3 => unfold maxLen; omega
            case c4 => omega
            case c5 => simp; omega
            intro v' wa hown' hgrow _
            have HOa : Hid (wa.ownsRow wo.heap.size 3 1 v' (j + 1) (ints (row ++ [y]))) := by show World.ownsRow _ _ _ _ _ _ _; rw [ints_snoc]; exact hown'
            have KA : Kept (fun b => wo.heap.size ≤ b) wr wa := ((Kept.refl _ wr).alloc _).grown hgrow (fun k hk => ((unhide HO).lt k hk).1)
            have HKa : Hid (Kept (fun b => b = cb ∨ wo.heap.size ≤ b) wo wa) := (unhide HK).trans (KA.mono (fun _ _ e => Or.inr e))
            have HCa := hide ((unhide HC).kept KA (fun b hb => by omega))
            have HRa : Hid ((row ++ [y]).length = j + 1 ∧ ((row ++ [y]).all fun x => inB x 0 50) = true) := ⟨by simp [HR.out.1], all_snoc HR.out.2 hy0 hy1⟩
            clear hown' hgrow KA HO HC HK HR hi hz0 hz1 hz2
            go_wp2_with fail
            refine (l1Below_any cb nb v 6 wa (unhide HCa) hn (by omega) (by omega)).mono ?_
            rintro e wb ⟨z, rfl, hz0, hz1, hc, hk⟩
            have HCb := hide hc
            have HKb : Hid (Kept (fun b => b = cb ∨ wo.heap.size ≤ b) wo wb) := (unhide HKa).trans (hk.mono (fun _ _ e => Or.inl e))
            have HOb := hide (ownsRow_kept (unhide HOa) hk (fun g hg _ _ e => by omega))
            clear hc hk HCa HKa HOa
            go_wp2_with fail
            refine (l1Once_any cb nb v 15 wb (unhide HCb) hn (by omega) (by omega)).mono ?_
            rintro e wc ⟨bb, rfl, hc, hk⟩
            have HCc := hide hc
            have HKc : Hid (Kept (fun b => b = cb ∨ wo.heap.size ≤ b) wo wc) := (unhide HKb).trans (hk.mono (fun _ _ e => Or.inl e))
            have HOc := hide (ownsRow_kept (unhide HOb) hk (fun g hg _ _ e => by omega))
            clear hc hk HCb HKb HOb
            cases bb with
            | true =>
              go_wp2_with fail
              refine (l1Below_any cb nb v 10 wc (unhide HCc) hn (by omega) (by omega)).mono ?_
              rintro e wd ⟨z2, rfl, hz20, hz21, hc, hk⟩
              have HCd := hide hc
              have HKd : Hid (Kept (fun b => b = cb ∨ wo.heap.size ≤ b) wo wd) := (unhide HKc).trans (hk.mono (fun _ _ e => Or.inl e))
              have HOd := hide (ownsRow_kept (unhide HOc) hk (fun g hg _ _ e => by omega))
              clear hc hk HCc HKc HOc
              go_wp2
              go_roundg (10 - (j + 1))
              case measure => omega
              case rel => exact ⟨j + 1, _, z2, by omega, rfl, by go_num, rfl, by omega, by omega, HRa, unhide HOd, unhide HCd, unhide HKd⟩
            | false =>
              by_cases h50 : 50 < y + z
              · go_wp2
                go_roundg (10 - (j + 1))
                case measure => omega
                case rel => exact ⟨j + 1, _, 50, by omega, rfl, by go_num, rfl, by omega, by omega, HRa, unhide HOc, unhide HCc, unhide HKc⟩
              · go_wp2
                go_roundg (10 - (j + 1))
                case measure => omega
                case rel => exact ⟨j + 1, _, y + z, by omega, rfl, by go_num, rfl, by omega, by omega, HRa, unhide HOc, unhide HCc, unhide HKc⟩
          · have hjj : (j : Int) = (10 : Int) := by omega
            obtain ⟨hrl, hra⟩ := HR.out
            subst hrl
            obtain ⟨g1, cap1, hv, hg1, hcap1, hcap2, hov1⟩ : ∃ g1 cap1, u7 = .slice (some ⟨g1, 0, none⟩) row.length cap1 ∧ wo.heap.size ≤ g1 ∧ row.length ≤ cap1 ∧ cap1 ≤ maxLen ∧ OwnV wr g1 (ints row) := by
              obtain ⟨_, h2⟩ := unhide HO
              rcases h2 with ⟨_, h0⟩ | ⟨g1, cap1, cur, hv, hg, hh, hc, hm', hs, ht⟩
              · omega
              · refine ⟨g1, cap1, hv, hg, hc, hm', cur, _, hh, fun i hi => ?_⟩
                rw [← ht]
                rw [ints_length] at hi
                simp [hi]
            obtain ⟨vals, hvo, hvr⟩ := (unhide HD).grow.kept (unhide HK) (fun g hg hl e => by rcases e with e | e <;> omega)
            have hbx := (unhide HD).box.kept (unhide HK) (by omega)
            have t2 := hbx.cell (i := 2) rfl
            have HBX := hide hbx
            have HVO := hide hvo
            have HVR := hide hvr
            have HV1 := hide hov1
            obtain ⟨i1, hi, hz0, hz1, hz2⟩ := info_parts Try.info31
            have hkR1 : R.length ≤ 12 := by have := unhide HRK; omega
            have HJJ := hide hjj
            have hrow2 : 2 ≤ row.length := by omega
            have hrow3 : row.length ≤ 10 := by omega
            have HRA : Hid ((row.all fun x => inB x 0 50) = true) := hra
            clear hbx hvo hvr hov1 HO HR hra hjj
            subst hv
            go_wp2_with (at_builtin; refine wpList_append_lies _ rfl _ _ 24 rfl (w3.heap.size + 1) 31 i1 (.slice none 0 0) 1 24 Try.underlying24 hi hz0 hz1 hz2 rfl (by decide) (.slice ao R.length cap) R.length vals rfl ((unhide HVO).alloc _) ⟨wr.heap.size, 0, none⟩ 1 1 [.slice (some ⟨g1, 0, none⟩) row.length cap1] rfl rfl (cell_one_new _ _ _) (by simp [Value.oneCell']) (by omega) (by unfold maxLen; omega) (by omega) (by simp; omega) (wr.heap.size + 1) (by simp) ?_; intro g' cap' w2 hown' hgrow hat _; have hbl : ∀ k, (Value.slice ao R.length cap).ownBlock = some k → w3.heap.size + 1 ≤ k := (fun k hk => ((unhide HVO).lt k hk).1); have hbx2 : OwnV w2 w3.heap.size [.int .i64 (1 + a), .int .i64 (1 + b), .slice ao R.length cap] := (((unhide HBX).alloc _).of_block (hgrow.block _ (by simp; omega) (fun e => by have := hbl _ e.symm; omega))); have t2' := hbx2.cell (i := 2) rfl; have f2' := hbx2.frozen 2; have hne1 : (Value.slice ao R.length cap).ownBlock ≠ some g1 := (fun e => by have := ((unhide HDO).lt g1 e).2; omega); have HN := hide (DrawSt.push (unhide HD) (unhide HK) (unhide HC) (unhide HVR) (by have := (unhide HVO).1; omega) (unhide HV1) hg1 hcap1 hcap2 hne1 hbl hown' hgrow hat); have HEN := hide ((unhide HE).push (show row.length = ((10 : Int)).toNat by have := unhide HJJ; omega) (unhide HRA)); clear hown' hgrow hat hbl hbx2 hne1)
            go_roundg (12 - (k + 1))
            case measure => omega
            case rel => exact ⟨k + 1, _, _, by omega, rfl, by go_num, by rw [List.length_append, unhide HRK]; rfl, unhide HEN, unhide HN⟩
      · have hkk : (k : Int) = 12 := by omega
        have hO := (unhide HD).res
        have hB := (unhide HD).box
        have hok : drawnHull (1 + a) (1 + b) R := ⟨even_ok (unhide HE) (by omega) (by omega) (by omega) (by omega) (by rw [unhide HRK]; omega) (by rw [unhide HRK]; omega) (by omega) (by omega), by omega, by omega⟩
        obtain ⟨ao, cap, eov, _, _, _⟩ := (unhide HD).grow.rowsIn
        subst eov
        have r0 := hO.cell (i := 0) rfl
        have r1 := hO.cell (i := 1) rfl
        have r2 := hO.cell (i := 2) rfl
        have s0 := hO.frozen 0
        have s1 := hO.frozen 1
        have s2 := hO.frozen 2
        have t0 := hB.cell (i := 0) rfl
        have t1 := hB.cell (i := 1) rfl
        have t2 := hB.cell (i := 2) rfl
        have HOK := hide hok
        have HS : Hid (DrawSt w wr cb nb w3.heap.size v (1 + a) (1 + b) (.slice ao R.length cap) R) := unhide HD
        clear hO hB hok hkk HD
        go_wp2
        refine bodyPost_ret (v := .agg #[.int .i64 (1 + a), .int .i64 (1 + b), .slice ao R.length cap]) (by simp [results, Try.results49, go_sem, r0, r1, r2]) rfl ⟨1 + a, 1 + b, R, ao, R.length, cap, rfl, ?_, unhide HOK, ?_, ?_⟩
        · exact ((unhide HS).grow.kept (DrawSt.out wr w.heap.size _ _ _) (fun g hg _ e => by have := (unhide HS).lt2; omega)).mono (by have := (unhide HS).lt2; omega)
        · exact (unhide HS).cur.kept (DrawSt.out wr w.heap.size _ _ _) (fun b e => by have := (unhide HS).lt1; omega)
        · exact (((unhide HS).kept.mono (T' := fun b => b = cb ∨ w.heap.size ≤ b) (fun _ _ e => Or.inl e)).trans ((DrawSt.out wr w.heap.size _ _ _).mono (fun _ _ e => Or.inr (by omega)))).mono (fun k hk e => by rcases e with e | e <;> omega)

end Go.Proofs.Yticcjdcglfiggaa
