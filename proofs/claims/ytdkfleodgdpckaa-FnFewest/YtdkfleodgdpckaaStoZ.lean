/- Stowage: both sides' Fewest (StoX, StoQs, StoQt, StoR, StoS, StoQ laid together by wip/mkstoz.py). No statement about the program stands here. -/
import Derived.Test.YtdkfleodgdpckaaRowB
import Derived.Deep.RegionLaw
import Derived.Test.YtdkfleodgdpckaaStoD
import Derived.Test.YtdkfleodgdpckaaStoP
import Derived.Test.YtdkfleodgdpckaaStoOs
import Derived.Test.YtdkfleodgdpckaaStoU
import Derived.Test.YtdkfleodgdpckaaStoE
import Derived.Test.YtdkfleodgdpckaaStoH
import Derived.Test.YtdkfleodgdpckaaStoO
import Derived.Test.YtdkfleodgdpckaaStoK
import Derived.Laws.EntriesVeiled
namespace Go.Proofs.Ytdkfleodgdpckaa
open Go.RowKit

theorem step_appRow {α : Type} [Inhabited α] {n : Nat} {enc : α → Nat → Value} {St T : TypeId} (hty : RecTy St T n enc) (w : World) {ops : Array Oper} {o : Oper} {a : Act} {K : Act → World → Prop} {Q : Exit → Act → World → Prop} {E : Prop} (hgd : o.guard = none) (s x : Operand)
    (ho : o.op = .call { callee := .builtin .append, args := #[s, x], argTypes := #[St, St] })
    (B : Nat) (ao : Option Addr) (m cap : Nat) (L : List α) (hs : a.eval s = .slice ao m cap) (h : RowB T n enc B w ao m cap L) (hB : B ≤ w.heap.size) (hm : m ≤ 1048576) (G : Nat) (b : α) (c : Nat) (hx : a.eval x = .slice (some ⟨G, 0, none⟩) 1 c) (hG : OwnV w G ((List.range n).map (enc b)))
    (hK : ∀ g' cap' w', RowB T n enc B w' (some ⟨g', 0, none⟩) (m + 1) cap' (L ++ [b]) → Kept (fun k => ao = some ⟨k, 0, none⟩) w w' → B ≤ g' → (ao = some ⟨g', 0, none⟩ ∨ g' = w.heap.size) → K (a.put o.dst (.slice (some ⟨g', 0, none⟩) (m + 1) cap')) w') :
    if Region.wanted o (yielded ops a.tmps) = true then Oper.wp Try.prog o a w K Q else E := by
  obtain ⟨i0, z, bytes, hinf, hz0, hz1, hz2, hz3, hby⟩ := hty.inf
  have hbb : (m + 1) * bytes ≤ 140737488355328 := by
    have : (m + 1) * bytes ≤ 1048577 * 1000 := Nat.mul_le_mul (by omega) hby
    omega
  refine step_append_lies w hgd s x St ho B T i0 z n bytes hty.und hinf hz0 hz1 hz2 hz3 hty.pos _ m (recCells n enc L) hs h ⟨G, 0, none⟩ 1 c ((List.range n).map (enc b)) hx (by simp) (fun j u hu => by
    have ha : (⟨G, 0, none⟩ : Addr).add j = ⟨G, j, none⟩ := by unfold Addr.add; split <;> simp_all
    rw [ha]
    exact hG.cell hu) (fun u hu => by
      obtain ⟨j, hj, rfl⟩ := List.mem_map.1 hu
      exact hty.one _ _ (by simpa using hj)) (by omega) (by unfold maxLen; omega) hbb hB _ rfl ?_
  intro g' cap' w' h2 h3 h4 _
  have hob : ∀ k, (Value.slice ao m cap).ownBlock = some k → ao = some ⟨k, 0, none⟩ := fun k hk => by
    rcases h.parts hty.pos with ⟨rfl, _⟩ | ⟨g, rfl, _⟩
    · simp [Value.ownBlock] at hk
    · simp [Value.ownBlock] at hk; rw [hk]
  have hr : RowB T n enc B w' (some ⟨g', 0, none⟩) (m + 1) cap' (L ++ [b]) := by
    unfold RowB
    rw [recCells_append n hty.pos, recCells_one]
    exact h2
  have hBg : B ≤ g' := by
    rcases hr.parts hty.pos with ⟨e, _⟩ | ⟨g, e, hBg, _⟩
    · cases e
    · simp only [Option.some.injEq, Addr.mk.injEq, and_true] at e
      omega
  exact hK g' cap' w' hr ⟨h3.os, h3.tape, h3.output, h3.size, fun k hk hn => h3.block k hk (fun e => hn (hob k e.symm))⟩ hBg (h4.imp (hob g') id)

/-- Any number of records more, none too. -/
theorem step_appAll {α : Type} [Inhabited α] {n : Nat} {enc : α → Nat → Value} {St T : TypeId} (hty : RecTy St T n enc) (w : World) {ops : Array Oper} {o : Oper} {a : Act} {K : Act → World → Prop} {Q : Exit → Act → World → Prop} {E : Prop} (hgd : o.guard = none) (s x : Operand)
    (ho : o.op = .call { callee := .builtin .append, args := #[s, x], argTypes := #[St, St] })
    (B : Nat) (ao : Option Addr) (m cap : Nat) (L : List α) (hs : a.eval s = .slice ao m cap) (h : RowB T n enc B w ao m cap L) (hB : B ≤ w.heap.size) (hm : m ≤ 1048576) (xo : Option Addr) (k c : Nat) (M : List α) (hx : a.eval x = .slice xo k c) (hX : RecsIn n enc w (.slice xo k c) M) (hk : k ≤ 1048576)
    (hK : ∀ ao' cap' w', RowB T n enc B w' ao' (m + k) cap' (L ++ M) → Kept (fun b => ao = some ⟨b, 0, none⟩) w w' → K (a.put o.dst (.slice ao' (m + k) cap')) w') :
    if Region.wanted o (yielded ops a.tmps) = true then Oper.wp Try.prog o a w K Q else E := by
  have hw : Region.wanted o (yielded ops a.tmps) = true := by simp [Region.wanted, hgd]
  obtain ⟨i0, z, bytes, hinf, hz0, hz1, hz2, hz3, hby⟩ := hty.inf
  have hbb : (m + k) * bytes ≤ 140737488355328 := by
    have : (m + k) * bytes ≤ 2097152 * 1000 := Nat.mul_le_mul (by omega) hby
    omega
  have hkl : M.length = k := by
    obtain ⟨_, _, e, _⟩ := hX
    simp only [Value.slice.injEq] at e
    exact e.2.1.symm
  by_cases hk0 : k = 0
  · subst hk0
    have hM : M = [] := List.length_eq_zero_iff.1 hkl
    subst hM
    rw [List.append_nil] at hK
    rw [if_pos hw]
    rcases h.parts hty.pos with ⟨rfl, rfl, rfl, rfl⟩ | ⟨g, rfl, _, _, hc, hcm, _⟩
    · have hrun := run_append_none (P := Try.prog) w St o.type T i0 hty.und hinf c xo
      unfold Oper.wp
      simp [execOp, ho, resolve, invoke, builtin, hs, hx, hrun, Result.andThen]
      exact hK none 0 w h (Kept.refl _ _)
    · have hrun := run_append_zer (P := Try.prog) w St o.type T i0 hty.und hinf ⟨g, 0, none⟩ m cap c xo hc
      unfold Oper.wp
      simp [execOp, ho, resolve, invoke, builtin, hs, hx, hrun, Result.andThen]
      exact hK _ cap w h (Kept.refl _ _)
  · obtain ⟨ad, rfl, hsrc⟩ := recs_src hX (by omega)
    refine step_append_lies w hgd s x St ho B T i0 z n bytes hty.und hinf hz0 hz1 hz2 hz3 hty.pos _ m (recCells n enc L) hs h ad k c (recCells n enc M) hx (by rw [recCells_length, hkl]) hsrc (hty.cells M) (by omega) (by unfold maxLen; omega) hbb hB _ rfl ?_
    intro g' cap' w' h2 h3 h4 _
    have hob : ∀ k, (Value.slice ao m cap).ownBlock = some k → ao = some ⟨k, 0, none⟩ := fun k hk => by
      rcases h.parts hty.pos with ⟨rfl, _⟩ | ⟨g, rfl, _⟩
      · simp [Value.ownBlock] at hk
      · simp [Value.ownBlock] at hk; rw [hk]
    refine hK _ cap' w' ?_ ⟨h3.os, h3.tape, h3.output, h3.size, fun k hk hn => h3.block k hk (fun e => hn (hob k e.symm))⟩
    unfold RowB
    rw [recCells_append n hty.pos]
    exact h2

theorem seek_nil (H : List HatchT) (S : List I3) (so : List StowT) (acc : AccT) : seek H S [] so acc = if wellB H so = true ∧ (acc.2 = false ∨ over so < over acc.1) then (so, true) else acc := rfl
/-- How far the spots have been gone through. -/
def seekT (H : List HatchT) (S : List I3) (b : BoxT) (bs : List BoxT) (so : List StowT) (acc : AccT) : Nat → AccT
  | 0 => acc
  | i + 1 => if hasB so (S.getD i default) = true then seekT H S b bs so acc i else seek H S bs (so ++ [mkS b (S.getD i default)]) (seekT H S b bs so acc i)
theorem seekT_take (H : List HatchT) (S : List I3) (b : BoxT) (bs : List BoxT) (so : List StowT) (acc : AccT) : ∀ i, i ≤ S.length → (S.take i).foldl (fun a s => if hasB so s = true then a else seek H S bs (so ++ [mkS b s]) a) acc = seekT H S b bs so acc i
  | 0, _ => rfl
  | i + 1, hi => by
    rw [List.take_add_one, List.getElem?_eq_getElem (by omega), List.foldl_append, seekT_take H S b bs so acc i (by omega), seekT, getD_lt (by omega)]
    rfl
theorem seek_cons (H : List HatchT) (S : List I3) (b : BoxT) (bs : List BoxT) (so : List StowT) (acc : AccT) : seek H S (b :: bs) so acc = seekT H S b bs so acc S.length := by
  rw [← seekT_take H S b bs so acc S.length (Nat.le_refl _), List.take_length, seek]
theorem seekT_len (H : List HatchT) (S : List I3) (b : BoxT) (bs : List BoxT) (so : List StowT) (acc : AccT) (h1 : so.length + (bs.length + 1) ≤ 5) (h2 : acc.1.length ≤ 5) : ∀ i, (seekT H S b bs so acc i).1.length ≤ 5
  | 0 => h2
  | i + 1 => by
    rw [seekT]
    split
    · exact seekT_len H S b bs so acc h1 h2 i
    · exact seek_len H S bs _ _ (by rw [List.length_append]; simp; omega) (seekT_len H S b bs so acc h1 h2 i)
theorem RecsIn.intsIn {α : Type} [Inhabited α] {n : Nat} {enc : α → Nat → Value} {w : World} {v : Value} {L : List α} (h : RecsIn n enc w v L) : RecsIn n enc w v L := h

set_option maxRecDepth 10000 in
set_option maxHeartbeats 25600000 in
theorem l12Seek_any (H : List HatchT) (BX : List BoxT) (S : List I3) (ho : Option Addr) (hcap : Nat) (xo : Option Addr) (xcap : Nat) (po : Option Addr) (pcap : Nat) (hb5 : BX.length ≤ 5) : ∀ (bs : List BoxT) (so best : List StowT) (has : Bool) (sao : Option Addr) (scp : Nat) (bao : Option Addr) (bcp : Nat) (w : World),
    (∀ b rest, bs = b :: rest → BX.getD so.length default = b ∧ so.length < BX.length) → so.length + bs.length = BX.length → best.length ≤ 5 →
    RHatch w (.slice ho H.length hcap) H → RBox w (.slice xo BX.length xcap) BX → R3 w (.slice po S.length pcap) S → RStow w (.slice sao so.length scp) so → RStow w (.slice bao best.length bcp) best → (∀ i, i < bs.length → BX.getD (so.length + i) default = bs.getD i default) →
    Calls Try.prog 82 #[.slice ho H.length hcap, .slice xo BX.length xcap, .slice po S.length pcap, .slice sao so.length scp, .slice bao best.length bcp, .bool has] w fun e w' => ∃ a n cp, e = .returned (.tuple #[.slice a n cp, .bool (seek H S bs so (best, has)).2]) ∧ RStow w' (.slice a n cp) (seek H S bs so (best, has)).1 ∧ Below w.heap.size w w' := by
  intro bs
  induction bs with
  | nil =>
    intro so best has sao scp bao bcp w _ hsl hb hH hX hS hso hbe _
    have hsl' : so.length = BX.length := by simpa using hsl
    have HRH := hide hH
    have HRS := hide hso
    have HRB := hide hbe
    have hso5 : so.length ≤ 5 := by omega
    have QW := hide fun V h1 h2 => specStowCode_any (.slice ho H.length hcap) (.slice sao so.length scp) H so V h1 h2
    have QO := hide fun V (h : RStow V (.slice sao so.length scp) so) => l12Over_any _ so V h (by omega)
    have QB := hide fun V (h : RStow V (.slice bao best.length bcp) best) => l12Over_any _ best V h (by omega)
    have ESK := hide (seek_nil H S so (best, has))
    dsimp only at ESK
    have EW : Hid (wellB H so = decide ((stowC H so).1 = 0)) := rfl
    obtain ⟨_, _, _, hsl2, hsm, _⟩ := hso
    have d0 : ((so.length : Int) == (BX.length : Int)) = true := by simp; omega
    have HN := hide (rowB_new 44 9 eStow w w.heap.size (Nat.le_refl _))
    clear hH hX hS hbe hsl hsl'
    generalize stowC H so = C at *
    obtain ⟨c, ck⟩ := C
    dsimp only at QW EW
    go_enter Try.func82, Try.ntmps82
    go_wp2_with fail
    refine (unhide QW _ (unhide HRH) (unhide HRS)).mono ?_
    rintro e w1 ⟨rfl, hb'⟩
    have HW := hide hb'
    clear hb' QW HN
    by_cases hc : c = 0
    case neg =>
      have d1 : (c == 0) = false := by simp [hc]
      rw [decide_eq_false hc] at EW
      have E : Hid (seek H S [] so (best, has) = (best, has)) := by show _ = _; rw [unhide ESK, unhide EW]; simp
      clear hc ESK EW
      go_wp2
      refine bodyPost_ret (v := .tuple #[.slice bao best.length bcp, .bool has]) (by simp [results, Try.results82, go_sem]) rfl ⟨_, _, _, by rw [unhide E], by rw [unhide E]; exact (unhide HRB).below (unhide HW), unhide HW⟩
    have d1 : (c == 0) = true := by simp [hc]
    rw [decide_eq_true hc] at EW
    rw [unhide EW] at ESK
    clear hc EW
    cases has with
    | false =>
      have E : Hid (seek H S [] so (best, false) = (so, true)) := by show _ = _; rw [unhide ESK]; simp
      have HN1 := hide (rowB_new 44 9 eStow w1 w.heap.size (unhide HW).size)
      have HW1 := hide (Below.step (unhide HW) (Below.alloc1 w1 (.cells #[] 44)))
      have HRS1 := hide ((unhide HRS).below (unhide HW1))
      have hws := (unhide HW1).size
      clear ESK
      go_wp2_with (at_builtin; go_must (refine wpList_appAll tyStow _ rfl _ _ rfl w.heap.size (some ⟨w1.heap.size, 0, none⟩) 0 0 [] rfl (unhide HN1) hws (by omega) sao so.length scp so rfl (unhide HRS1) (by omega) ?_); intro ra rc w2 hL hK; have HL2 : Hid (RowB 44 9 eStow w.heap.size w2 ra (0 + so.length) rc so) := hL; have HW2 := hide (onRow_below (unhide HW1) (unhide HN1) (by decide) hws hK); clear hL hK)
      refine bodyPost_ret (v := .tuple #[.slice ra (0 + so.length) rc, .bool true]) (by simp [results, Try.results82, go_sem]) rfl ⟨_, _, _, by rw [unhide E], by rw [unhide E]; exact (unhide HL2).recs (by decide), unhide HW2⟩
    | true =>
    have E1 : Hid (over so < over best → seek H S [] so (best, true) = (so, true)) := fun h => by rw [unhide ESK]; simp [h]
    have E2 : Hid (¬ over so < over best → seek H S [] so (best, true) = (best, true)) := fun h => by rw [unhide ESK]; simp [h]
    clear ESK
    generalize over so = oa at *
    generalize over best = ob at *
    go_wp2_with fail
    refine (unhide QO _ ((unhide HRS).below (unhide HW))).mono ?_
    rintro e w2 ⟨rfl, hb'⟩
    replace HW := hide (Below.step (unhide HW) hb')
    clear hb' QO
    go_wp2_with fail
    refine (unhide QB _ ((unhide HRB).below (unhide HW))).mono ?_
    rintro e w3 ⟨rfl, hb'⟩
    replace HW := hide (Below.step (unhide HW) hb')
    clear hb' QB
    by_cases hlt : oa < ob
    · have E := hide (unhide E1 hlt)
      have hlti : (oa : Int) < ob := by omega
      have HN1 := hide (rowB_new 44 9 eStow w3 w.heap.size (unhide HW).size)
      have HW1 := hide (Below.step (unhide HW) (Below.alloc1 w3 (.cells #[] 44)))
      have HRS1 := hide ((unhide HRS).below (unhide HW1))
      have hws := (unhide HW1).size
      clear E1 E2 hlt
      go_wp2_with (at_builtin; go_must (refine wpList_appAll tyStow _ rfl _ _ rfl w.heap.size (some ⟨w3.heap.size, 0, none⟩) 0 0 [] rfl (unhide HN1) hws (by omega) sao so.length scp so rfl (unhide HRS1) (by omega) ?_); intro ra rc w4 hL hK; have HL2 : Hid (RowB 44 9 eStow w.heap.size w4 ra (0 + so.length) rc so) := hL; have HW2 := hide (onRow_below (unhide HW1) (unhide HN1) (by decide) hws hK); clear hL hK)
      refine bodyPost_ret (v := .tuple #[.slice ra (0 + so.length) rc, .bool true]) (by simp [results, Try.results82, go_sem]) rfl ⟨_, _, _, by rw [unhide E], by rw [unhide E]; exact (unhide HL2).recs (by decide), unhide HW2⟩
    · have E := hide (unhide E2 hlt)
      have hlti : ¬ (oa : Int) < ob := by omega
      clear E1 E2 hlt
      go_wp2
      refine bodyPost_ret (v := .tuple #[.slice bao best.length bcp, .bool true]) (by simp [results, Try.results82, go_sem]) rfl ⟨_, _, _, by rw [unhide E], by rw [unhide E]; exact (unhide HRB).below (unhide HW), unhide HW⟩
  | cons b0 bs ih =>
    intro so best has sao scp bao bcp w hfst hsl hb hH hX hS hso hbe hall
    obtain ⟨hB0, hlt⟩ := hfst b0 bs rfl
    have HRH := hide hH
    have HRX := hide hX
    have HRS := hide hso
    have HRP := hide hS
    obtain ⟨_, _, eX, hxl, hxm, hxc⟩ := hX
    obtain ⟨_, _, eP, hpl, hpm, hpc⟩ := hS
    obtain ⟨_, _, eS, hsl2, hsm, _⟩ := hso
    simp only [Value.slice.injEq, true_and] at eX eP eS
    obtain ⟨rfl, rfl⟩ := eX
    obtain ⟨rfl, rfl⟩ := eP
    obtain ⟨rfl, rfl⟩ := eS
    unfold maxLen at hxm hpm hsm
    have HXC := hide hxc
    have HPC := hide hpc
    have hlt5 : so.length < 5 := by omega
    have hlen : so.length + (bs.length + 1) = BX.length := by simpa using hsl
    have ESK := hide (seek_cons H S b0 bs so (best, has))
    have ELN := hide (seekT_len H S b0 bs so (best, has) (by omega) hb)
    have IH := hide ih
    have HB0 := hide hB0
    have HALL := hide hall
    have HBE := hide hbe
    have d0 : ((so.length : Int) == (BX.length : Int)) = false := by simp; omega
    have hlti : (so.length : Int) < BX.length := by omega
    have QA := hide fun V x y z (h : RStow V (.slice sao so.length scp) so) => l12At_any _ so x y z V h
    clear hH hbe hxc hpc hB0 hall hfst hsl ih
    go_enter Try.func82, Try.ntmps82
    go_wp2
    go_loopg [4, 5, 16] S.length (fun g bv hv iv wr => ∃ (i bc : Nat) (ba : Option Addr) (A : List StowT) (hs : Bool), i ≤ S.length ∧ g = S.length - i ∧ iv = .int .i64 i ∧ bv = .slice ba A.length bc ∧ hv = .bool hs ∧ Hid ((A, hs) = seekT H S b0 bs so (best, has) i) ∧ Hid (RStow wr (.slice ba A.length bc) A) ∧ Hid (Below w.heap.size w wr))
    case atStart => exact ⟨0, bcp, bao, best, has, Nat.zero_le _, rfl, rfl, rfl, rfl, rfl, unhide HBE, Below.refl _ _⟩
    case round =>
      clear HBE
      obtain ⟨i, bc, ba, A, hs, hi, rfl, rfl, rfl, rfl, EA, HRA, HW⟩ := hrel
      by_cases hin : i < S.length
      · have hii : (i : Int) < S.length := by omega
        have ET1 : Hid (hasB so (S.getD i default) = true → seekT H S b0 bs so (best, has) (i + 1) = seekT H S b0 bs so (best, has) i) := fun h => by rw [seekT, if_pos h]
        have ET2 : Hid (hasB so (S.getD i default) = false → seekT H S b0 bs so (best, has) (i + 1) = seek H S bs (so ++ [mkS b0 (S.getD i default)]) (seekT H S b0 bs so (best, has) i)) := fun h => by rw [seekT, if_neg (by rw [h]; decide)]
        have hA5 : A.length ≤ 5 := by have := unhide ELN i; rw [← unhide EA] at this; exact this
        rw [← unhide EA] at ET1 ET2
        obtain ⟨sb, sO, sx, sy, sz, rfl, hc0, hc1, hc2, EX⟩ := rec3At (unhide HPC) hin
        have sx0 := ((unhide HW).cell (lt_of_cell hc0)).trans hc0
        have sx1 := ((unhide HW).cell (lt_of_cell hc1)).trans hc1
        have sx2 := ((unhide HW).cell (lt_of_cell hc2)).trans hc2
        rw [unhide EX] at ET1 ET2
        have QA1 := hide fun V (h : RStow V (.slice sao so.length scp) so) => unhide QA V sx sy sz h
        unfold v3 at QA1
        have EHN : Hid (hasB so (sx, sy, sz) = false → atV so (sx, sy, sz) = -1) := atV_not
        have EHH : Hid (hasB so (sx, sy, sz) = true → 0 ≤ atV so (sx, sy, sz)) := fun h => by obtain ⟨k, _, _, e, _⟩ := atV_has h; omega
        clear hc0 hc1 hc2 EX
        generalize atV so (sx, sy, sz) = at0 at *
        go_wp2_with fail
        refine (unhide QA1 _ ((unhide HRS).below (unhide HW))).mono ?_
        rintro e w2 ⟨rfl, hb'⟩
        have sy0 := (hb'.cell (lt_of_cell sx0)).trans sx0
        have sy1 := (hb'.cell (lt_of_cell sx1)).trans sx1
        have sy2 := (hb'.cell (lt_of_cell sx2)).trans sx2
        replace HW := hide (Below.step (unhide HW) hb')
        replace HRA := hide ((unhide HRA).below hb')
        clear hb' QA1 sx0 sx1 sx2
        cases hh : hasB so (sx, sy, sz) with
        | true =>
          have h0 := unhide EHH hh
          have h1 : decide (at0 < 0) = false := by simp; omega
          have h2 : ¬ at0 < 0 := by omega
          have ET := hide (unhide ET1 hh)
          clear ET1 ET2 EHN EHH hh h0 EA
          go_wp2
          go_roundg (S.length - (i + 1))
          case measure => omega
          case rel => exact ⟨i + 1, bc, ba, A, hs, by omega, rfl, by go_num, rfl, rfl, (unhide ET).symm, unhide HRA, unhide HW⟩
        | false =>
          have h0 := unhide EHN hh
          subst h0
          have ET := hide (unhide ET2 hh)
          clear ET1 ET2 EHN EHH hh EA
          obtain ⟨bb, bo, n, wt, cl, co, fr, to, rfl, hc0, hc1, hc2, hc3, hc4, hc5, EX⟩ := recBoxAt (unhide HXC) hlt
          have EMK : Hid (mkS b0 (sx, sy, sz) = (n, wt, cl, co, fr, to, sx, sy, sz)) := by show _ = _; rw [← unhide HB0, unhide EX]; rfl
          rw [unhide EMK] at ET
          have bx0 := ((unhide HW).cell (lt_of_cell hc0)).trans hc0
          have bx1 := ((unhide HW).cell (lt_of_cell hc1)).trans hc1
          have bx2 := ((unhide HW).cell (lt_of_cell hc2)).trans hc2
          have bx3 := ((unhide HW).cell (lt_of_cell hc3)).trans hc3
          have bx4 := ((unhide HW).cell (lt_of_cell hc4)).trans hc4
          have bx5 := ((unhide HW).cell (lt_of_cell hc5)).trans hc5
          have sx0 := sy0
          have sx1 := sy1
          have sx2 := sy2
          have HR2 := hide ((unhide HRS).below (unhide HW))
          clear hc0 hc1 hc2 hc3 hc4 hc5 EX EMK sy0 sy1 sy2
          generalize hwr : w2 = wr at *
          clear hwr
          have hbb := lt_of_cell bx0
          have hsb := lt_of_cell sx0
          dsimp only at hbb hsb
          have R1 : Hid (RowB 44 9 eStow wr.heap.size (wr.alloc (.cells #[] 44)).drew (some ⟨wr.heap.size, 0, none⟩) 0 0 ([] : List StowT)) := RowB.below (rowB_new 44 9 eStow wr wr.heap.size (Nat.le_refl _)) (Below.refl _ _).drew
          have R2 : Hid (RowB 44 9 eStow wr.heap.size ((wr.alloc (.cells #[] 44)).alloc (.cells #[.string n, .int .i64 wt, .int .i64 cl, .bool co, .int .i64 fr, .int .i64 to, .int .i64 sx, .int .i64 sy, .int .i64 sz] 44)).drew (some ⟨wr.heap.size, 0, none⟩) 0 0 ([] : List StowT)) := RowB.below ((rowB_new 44 9 eStow wr wr.heap.size (Nat.le_refl _)).below (Below.alloc1 _ _)) (Below.refl _ _).drew
          have R3' : RowB 44 9 eStow wr.heap.size ((wr.alloc (.cells #[.string n, .int .i64 wt, .int .i64 cl, .bool co, .int .i64 fr, .int .i64 to, .int .i64 sx, .int .i64 sy, .int .i64 sz] 44)).alloc (.cells #[] 44)) (some ⟨(wr.alloc (.cells #[.string n, .int .i64 wt, .int .i64 cl, .bool co, .int .i64 fr, .int .i64 to, .int .i64 sx, .int .i64 sy, .int .i64 sz] 44)).heap.size, 0, none⟩) 0 0 ([] : List StowT) := rowB_new 44 9 eStow (wr.alloc (.cells #[.string n, .int .i64 wt, .int .i64 cl, .bool co, .int .i64 fr, .int .i64 to, .int .i64 sx, .int .i64 sy, .int .i64 sz] 44)) wr.heap.size (by simp)
          simp only [World.size_alloc] at R3'
          have R3 : Hid (RowB 44 9 eStow wr.heap.size ((wr.alloc (.cells #[.string n, .int .i64 wt, .int .i64 cl, .bool co, .int .i64 fr, .int .i64 to, .int .i64 sx, .int .i64 sy, .int .i64 sz] 44)).alloc (.cells #[] 44)).drew (some ⟨wr.heap.size + 1, 0, none⟩) 0 0 ([] : List StowT)) := RowB.below R3' (Below.refl _ _).drew
          have HB1 : Hid (Below wr.heap.size wr (wr.alloc (.cells #[] 44)).drew) := (Below.alloc1 _ _).drew
          have HB2 : Hid (Below wr.heap.size wr ((wr.alloc (.cells #[] 44)).alloc (.cells #[.string n, .int .i64 wt, .int .i64 cl, .bool co, .int .i64 fr, .int .i64 to, .int .i64 sx, .int .i64 sy, .int .i64 sz] 44)).drew) := (Below.step (Below.alloc1 _ _) (Below.alloc1 _ _)).drew
          have HB3 : Hid (Below wr.heap.size wr ((wr.alloc (.cells #[.string n, .int .i64 wt, .int .i64 cl, .bool co, .int .i64 fr, .int .i64 to, .int .i64 sx, .int .i64 sy, .int .i64 sz] 44)).alloc (.cells #[] 44)).drew) := (Below.step (Below.alloc1 _ _) (Below.alloc1 _ _)).drew
          have D1 := hide ((unhide HR2).below (unhide HB1))
          have D2 := hide ((unhide HR2).below (unhide HB2))
          have D3 := hide ((unhide HR2).below (unhide HB3))
          have G2 : Hid (OwnV ((wr.alloc (.cells #[] 44)).alloc (.cells #[.string n, .int .i64 wt, .int .i64 cl, .bool co, .int .i64 fr, .int .i64 to, .int .i64 sx, .int .i64 sy, .int .i64 sz] 44)).drew (wr.heap.size + 1) [.string n, .int .i64 wt, .int .i64 cl, .bool co, .int .i64 fr, .int .i64 to, .int .i64 sx, .int .i64 sy, .int .i64 sz]) := by
            have h := ownV_alloc (wr.alloc (.cells #[] 44)) #[.string n, .int .i64 wt, .int .i64 cl, .bool co, .int .i64 fr, .int .i64 to, .int .i64 sx, .int .i64 sy, .int .i64 sz] 44
            simp only [World.size_alloc] at h
            exact h.drew
          have G3 : Hid (OwnV ((wr.alloc (.cells #[.string n, .int .i64 wt, .int .i64 cl, .bool co, .int .i64 fr, .int .i64 to, .int .i64 sx, .int .i64 sy, .int .i64 sz] 44)).alloc (.cells #[] 44)).drew wr.heap.size [.string n, .int .i64 wt, .int .i64 cl, .bool co, .int .i64 fr, .int .i64 to, .int .i64 sx, .int .i64 sy, .int .i64 sz]) := (OwnV.alloc (ownV_alloc wr #[.string n, .int .i64 wt, .int .i64 cl, .bool co, .int .i64 fr, .int .i64 to, .int .i64 sx, .int .i64 sy, .int .i64 sz] 44) _).drew
          clear R3'
          go_wp2
          go_region_held3 (fun z => z.cell? ⟨bb, bo + so.length * 6, none⟩ = some (.string n) ∧ z.cell? ⟨bb, bo + so.length * 6 + 1, none⟩ = some (.int .i64 wt) ∧ z.cell? ⟨bb, bo + so.length * 6 + 2, none⟩ = some (.int .i64 cl) ∧ z.cell? ⟨bb, bo + so.length * 6 + 3, none⟩ = some (.bool co) ∧ z.cell? ⟨bb, bo + so.length * 6 + 4, none⟩ = some (.int .i64 fr) ∧ z.cell? ⟨bb, bo + so.length * 6 + 5, none⟩ = some (.int .i64 to) ∧ z.cell? ⟨sb, sO + i * 3, none⟩ = some (.int .i64 sx) ∧ z.cell? ⟨sb, sO + i * 3 + 1, none⟩ = some (.int .i64 sy) ∧ z.cell? ⟨sb, sO + i * 3 + 2, none⟩ = some (.int .i64 sz)) (go_keep) (first | (refine step_appAll tyStow _ (by rfl) (.tmp 60) (.tmp 61) (by rfl) wr.heap.size (some ⟨wr.heap.size, 0, none⟩) 0 0 [] (by rfl) (unhide R1) (by simp <;> omega) (by omega) sao so.length scp so (by rfl) (unhide D1) (by omega) ?_; intro ao2 cap2 wa hL hK; rw [Nat.zero_add so.length] at hL ⊢; have HLa : Hid (RowB 44 9 eStow wr.heap.size wa ao2 so.length cap2 so) := hL; have HBa : Hid (Below wr.heap.size wr wa) := (onRow_below (unhide HB1) (unhide R1) (by decide) (by simp <;> omega) hK); have hza := (unhide HBa).size; have pb0 := ((unhide HBa).cell (lt_of_cell bx0)).trans bx0; have pb1 := ((unhide HBa).cell (lt_of_cell bx1)).trans bx1; have pb2 := ((unhide HBa).cell (lt_of_cell bx2)).trans bx2; have pb3 := ((unhide HBa).cell (lt_of_cell bx3)).trans bx3; have pb4 := ((unhide HBa).cell (lt_of_cell bx4)).trans bx4; have pb5 := ((unhide HBa).cell (lt_of_cell bx5)).trans bx5; have ps0 := ((unhide HBa).cell (lt_of_cell sx0)).trans sx0; have ps1 := ((unhide HBa).cell (lt_of_cell sx1)).trans sx1; have ps2 := ((unhide HBa).cell (lt_of_cell sx2)).trans sx2; clear hL hK) | (refine step_appAll tyStow _ (by rfl) (.tmp 60) (.tmp 61) (by rfl) wr.heap.size (some ⟨wr.heap.size, 0, none⟩) 0 0 [] (by rfl) (unhide R2) (by simp <;> omega) (by omega) sao so.length scp so (by rfl) (unhide D2) (by omega) ?_; intro ao2 cap2 wa hL hK; rw [Nat.zero_add so.length] at hL ⊢; have HLa : Hid (RowB 44 9 eStow wr.heap.size wa ao2 so.length cap2 so) := hL; have HBa : Hid (Below wr.heap.size wr wa) := (onRow_below (unhide HB2) (unhide R2) (by decide) (by simp <;> omega) hK); have hza := (unhide HBa).size; have HG2 : Hid (OwnV wa (wr.heap.size + 1) [.string n, .int .i64 wt, .int .i64 cl, .bool co, .int .i64 fr, .int .i64 to, .int .i64 sx, .int .i64 sy, .int .i64 sz]) := ((unhide G2).kept hK (fun e => by simp only [Option.some.injEq, Addr.mk.injEq, and_true] at e; omega)); have pb0 := ((unhide HBa).cell (lt_of_cell bx0)).trans bx0; have pb1 := ((unhide HBa).cell (lt_of_cell bx1)).trans bx1; have pb2 := ((unhide HBa).cell (lt_of_cell bx2)).trans bx2; have pb3 := ((unhide HBa).cell (lt_of_cell bx3)).trans bx3; have pb4 := ((unhide HBa).cell (lt_of_cell bx4)).trans bx4; have pb5 := ((unhide HBa).cell (lt_of_cell bx5)).trans bx5; have ps0 := ((unhide HBa).cell (lt_of_cell sx0)).trans sx0; have ps1 := ((unhide HBa).cell (lt_of_cell sx1)).trans sx1; have ps2 := ((unhide HBa).cell (lt_of_cell sx2)).trans sx2; clear hL hK) | (refine step_appAll tyStow _ (by rfl) (.tmp 60) (.tmp 61) (by rfl) wr.heap.size (some ⟨wr.heap.size + 1, 0, none⟩) 0 0 [] (by rfl) (unhide R3) (by simp <;> omega) (by omega) sao so.length scp so (by rfl) (unhide D3) (by omega) ?_; intro ao2 cap2 wa hL hK; rw [Nat.zero_add so.length] at hL ⊢; have HLa : Hid (RowB 44 9 eStow wr.heap.size wa ao2 so.length cap2 so) := hL; have HBa : Hid (Below wr.heap.size wr wa) := (onRow_below (unhide HB3) (unhide R3) (by decide) (by simp <;> omega) hK); have hza := (unhide HBa).size; have HG3 : Hid (OwnV wa (wr.heap.size) [.string n, .int .i64 wt, .int .i64 cl, .bool co, .int .i64 fr, .int .i64 to, .int .i64 sx, .int .i64 sy, .int .i64 sz]) := ((unhide G3).kept hK (fun e => by simp only [Option.some.injEq, Addr.mk.injEq, and_true] at e; omega)); have pb0 := ((unhide HBa).cell (lt_of_cell bx0)).trans bx0; have pb1 := ((unhide HBa).cell (lt_of_cell bx1)).trans bx1; have pb2 := ((unhide HBa).cell (lt_of_cell bx2)).trans bx2; have pb3 := ((unhide HBa).cell (lt_of_cell bx3)).trans bx3; have pb4 := ((unhide HBa).cell (lt_of_cell bx4)).trans bx4; have pb5 := ((unhide HBa).cell (lt_of_cell bx5)).trans bx5; have ps0 := ((unhide HBa).cell (lt_of_cell sx0)).trans sx0; have ps1 := ((unhide HBa).cell (lt_of_cell sx1)).trans sx1; have ps2 := ((unhide HBa).cell (lt_of_cell sx2)).trans sx2; clear hL hK) | (refine step_appRow tyStow _ (by rfl) (.tmp 62) (.tmp 73) (by rfl) wr.heap.size ao2 so.length cap2 so (by rfl) ((unhide HLa).below (Below.alloc1 wa (.cells #[.string n, .int .i64 wt, .int .i64 cl, .bool co, .int .i64 fr, .int .i64 to, .int .i64 sx, .int .i64 sy, .int .i64 sz] 44))) (Nat.le_trans (unhide HBa).size (by simp)) (by omega) (wa.heap.size) (n, wt, cl, co, fr, to, sx, sy, sz) 1 (by rfl) (ownV_alloc wa #[.string n, .int .i64 wt, .int .i64 cl, .bool co, .int .i64 fr, .int .i64 to, .int .i64 sx, .int .i64 sy, .int .i64 sz] 44) ?_; intro g3 cap3 wb hL hK hBg hat; have HLb := hide hL; have HBb : Hid (Below wr.heap.size wr wb) := (onRow_below (Below.step (unhide HBa) (Below.alloc1 wa (.cells #[.string n, .int .i64 wt, .int .i64 cl, .bool co, .int .i64 fr, .int .i64 to, .int .i64 sx, .int .i64 sy, .int .i64 sz] 44))) ((unhide HLa).below (Below.alloc1 wa (.cells #[.string n, .int .i64 wt, .int .i64 cl, .bool co, .int .i64 fr, .int .i64 to, .int .i64 sx, .int .i64 sy, .int .i64 sz] 44))) (by decide) (Nat.le_trans (unhide HBa).size (by simp)) hK); have qb0 := ((unhide HBb).cell (lt_of_cell bx0)).trans bx0; have qb1 := ((unhide HBb).cell (lt_of_cell bx1)).trans bx1; have qb2 := ((unhide HBb).cell (lt_of_cell bx2)).trans bx2; have qb3 := ((unhide HBb).cell (lt_of_cell bx3)).trans bx3; have qb4 := ((unhide HBb).cell (lt_of_cell bx4)).trans bx4; have qb5 := ((unhide HBb).cell (lt_of_cell bx5)).trans bx5; have qs0 := ((unhide HBb).cell (lt_of_cell sx0)).trans sx0; have qs1 := ((unhide HBb).cell (lt_of_cell sx1)).trans sx1; have qs2 := ((unhide HBb).cell (lt_of_cell sx2)).trans sx2; clear hL hK hat hBg) | (refine step_appRow tyStow _ (by rfl) (.tmp 62) (.tmp 73) (by rfl) wr.heap.size ao2 so.length cap2 so (by rfl) (RowB.below ((unhide HLa).below (Below.alloc1 wa (.cells #[.string n, .int .i64 wt, .int .i64 cl, .bool co, .int .i64 fr, .int .i64 to, .int .i64 sx, .int .i64 sy, .int .i64 sz] 44))) (Below.refl _ _).drew) (Nat.le_trans (unhide HBa).size (by simp)) (by omega) (wa.heap.size) (n, wt, cl, co, fr, to, sx, sy, sz) 1 (by rfl) ((ownV_alloc wa #[.string n, .int .i64 wt, .int .i64 cl, .bool co, .int .i64 fr, .int .i64 to, .int .i64 sx, .int .i64 sy, .int .i64 sz] 44).drew) ?_; intro g3 cap3 wb hL hK hBg hat; have HLb := hide hL; have HBb : Hid (Below wr.heap.size wr wb) := (onRow_below ((Below.step (unhide HBa) (Below.alloc1 wa (.cells #[.string n, .int .i64 wt, .int .i64 cl, .bool co, .int .i64 fr, .int .i64 to, .int .i64 sx, .int .i64 sy, .int .i64 sz] 44))).drew) (RowB.below ((unhide HLa).below (Below.alloc1 wa (.cells #[.string n, .int .i64 wt, .int .i64 cl, .bool co, .int .i64 fr, .int .i64 to, .int .i64 sx, .int .i64 sy, .int .i64 sz] 44))) (Below.refl _ _).drew) (by decide) (Nat.le_trans (unhide HBa).size (by simp)) hK); have qb0 := ((unhide HBb).cell (lt_of_cell bx0)).trans bx0; have qb1 := ((unhide HBb).cell (lt_of_cell bx1)).trans bx1; have qb2 := ((unhide HBb).cell (lt_of_cell bx2)).trans bx2; have qb3 := ((unhide HBb).cell (lt_of_cell bx3)).trans bx3; have qb4 := ((unhide HBb).cell (lt_of_cell bx4)).trans bx4; have qb5 := ((unhide HBb).cell (lt_of_cell bx5)).trans bx5; have qs0 := ((unhide HBb).cell (lt_of_cell sx0)).trans sx0; have qs1 := ((unhide HBb).cell (lt_of_cell sx1)).trans sx1; have qs2 := ((unhide HBb).cell (lt_of_cell sx2)).trans sx2; clear hL hK hat hBg) | (refine step_appRow tyStow _ (by rfl) (.tmp 62) (.tmp 73) (by rfl) wr.heap.size ao2 so.length cap2 so (by rfl) (unhide HLa) ((unhide HBa).size) (by omega) (wr.heap.size + 1) (n, wt, cl, co, fr, to, sx, sy, sz) 1 (by rfl) (unhide HG2) ?_; intro g3 cap3 wb hL hK hBg hat; have HLb := hide hL; have HBb : Hid (Below wr.heap.size wr wb) := (onRow_below (unhide HBa) (unhide HLa) (by decide) ((unhide HBa).size) hK); have qb0 := ((unhide HBb).cell (lt_of_cell bx0)).trans bx0; have qb1 := ((unhide HBb).cell (lt_of_cell bx1)).trans bx1; have qb2 := ((unhide HBb).cell (lt_of_cell bx2)).trans bx2; have qb3 := ((unhide HBb).cell (lt_of_cell bx3)).trans bx3; have qb4 := ((unhide HBb).cell (lt_of_cell bx4)).trans bx4; have qb5 := ((unhide HBb).cell (lt_of_cell bx5)).trans bx5; have qs0 := ((unhide HBb).cell (lt_of_cell sx0)).trans sx0; have qs1 := ((unhide HBb).cell (lt_of_cell sx1)).trans sx1; have qs2 := ((unhide HBb).cell (lt_of_cell sx2)).trans sx2; clear hL hK hat hBg) | (refine step_appRow tyStow _ (by rfl) (.tmp 62) (.tmp 73) (by rfl) wr.heap.size ao2 so.length cap2 so (by rfl) (RowB.below (unhide HLa) (Below.refl _ _).drew) ((unhide HBa).size) (by omega) (wr.heap.size + 1) (n, wt, cl, co, fr, to, sx, sy, sz) 1 (by rfl) ((unhide HG2).drew) ?_; intro g3 cap3 wb hL hK hBg hat; have HLb := hide hL; have HBb : Hid (Below wr.heap.size wr wb) := (onRow_below ((unhide HBa).drew) (RowB.below (unhide HLa) (Below.refl _ _).drew) (by decide) ((unhide HBa).size) hK); have qb0 := ((unhide HBb).cell (lt_of_cell bx0)).trans bx0; have qb1 := ((unhide HBb).cell (lt_of_cell bx1)).trans bx1; have qb2 := ((unhide HBb).cell (lt_of_cell bx2)).trans bx2; have qb3 := ((unhide HBb).cell (lt_of_cell bx3)).trans bx3; have qb4 := ((unhide HBb).cell (lt_of_cell bx4)).trans bx4; have qb5 := ((unhide HBb).cell (lt_of_cell bx5)).trans bx5; have qs0 := ((unhide HBb).cell (lt_of_cell sx0)).trans sx0; have qs1 := ((unhide HBb).cell (lt_of_cell sx1)).trans sx1; have qs2 := ((unhide HBb).cell (lt_of_cell sx2)).trans sx2; clear hL hK hat hBg) | (refine step_appRow tyStow _ (by rfl) (.tmp 62) (.tmp 73) (by rfl) wr.heap.size ao2 so.length cap2 so (by rfl) (unhide HLa) ((unhide HBa).size) (by omega) (wr.heap.size) (n, wt, cl, co, fr, to, sx, sy, sz) 1 (by rfl) (unhide HG3) ?_; intro g3 cap3 wb hL hK hBg hat; have HLb := hide hL; have HBb : Hid (Below wr.heap.size wr wb) := (onRow_below (unhide HBa) (unhide HLa) (by decide) ((unhide HBa).size) hK); have qb0 := ((unhide HBb).cell (lt_of_cell bx0)).trans bx0; have qb1 := ((unhide HBb).cell (lt_of_cell bx1)).trans bx1; have qb2 := ((unhide HBb).cell (lt_of_cell bx2)).trans bx2; have qb3 := ((unhide HBb).cell (lt_of_cell bx3)).trans bx3; have qb4 := ((unhide HBb).cell (lt_of_cell bx4)).trans bx4; have qb5 := ((unhide HBb).cell (lt_of_cell bx5)).trans bx5; have qs0 := ((unhide HBb).cell (lt_of_cell sx0)).trans sx0; have qs1 := ((unhide HBb).cell (lt_of_cell sx1)).trans sx1; have qs2 := ((unhide HBb).cell (lt_of_cell sx2)).trans sx2; clear hL hK hat hBg) | (refine step_appRow tyStow _ (by rfl) (.tmp 62) (.tmp 73) (by rfl) wr.heap.size ao2 so.length cap2 so (by rfl) (RowB.below (unhide HLa) (Below.refl _ _).drew) ((unhide HBa).size) (by omega) (wr.heap.size) (n, wt, cl, co, fr, to, sx, sy, sz) 1 (by rfl) ((unhide HG3).drew) ?_; intro g3 cap3 wb hL hK hBg hat; have HLb := hide hL; have HBb : Hid (Below wr.heap.size wr wb) := (onRow_below ((unhide HBa).drew) (RowB.below (unhide HLa) (Below.refl _ _).drew) (by decide) ((unhide HBa).size) hK); have qb0 := ((unhide HBb).cell (lt_of_cell bx0)).trans bx0; have qb1 := ((unhide HBb).cell (lt_of_cell bx1)).trans bx1; have qb2 := ((unhide HBb).cell (lt_of_cell bx2)).trans bx2; have qb3 := ((unhide HBb).cell (lt_of_cell bx3)).trans bx3; have qb4 := ((unhide HBb).cell (lt_of_cell bx4)).trans bx4; have qb5 := ((unhide HBb).cell (lt_of_cell bx5)).trans bx5; have qs0 := ((unhide HBb).cell (lt_of_cell sx0)).trans sx0; have qs1 := ((unhide HBb).cell (lt_of_cell sx1)).trans sx1; have qs2 := ((unhide HBb).cell (lt_of_cell sx2)).trans sx2; clear hL hK hat hBg))
          all_goals
            have hln : (so ++ [(n, wt, cl, co, fr, to, sx, sy, sz)]).length = so.length + 1 := by simp
            have HWb := hide (Below.step (unhide HW) (unhide HBb))
            have HRb := hide ((unhide HLb).recs (by decide))
            have HRAb := hide ((unhide HRA).below (unhide HBb))
            have QI := unhide IH (so ++ [(n, wt, cl, co, fr, to, sx, sy, sz)]) A hs (some ⟨g3, 0, none⟩) cap3 ba bc wb (fun b rest e => by
              have h1 := unhide HALL 1 (by rw [e]; simp)
              rw [hln]
              refine ⟨?_, by rw [e] at hlen; simp at hlen; omega⟩
              rw [h1, e]
              rfl) (by rw [hln]; omega) hA5 ((unhide HRH).below (unhide HWb)) ((unhide HRX).below (unhide HWb)) ((unhide HRP).below (unhide HWb)) (by rw [hln]; exact unhide HRb) (unhide HRAb) (fun j hj => by
              have h1 := unhide HALL (j + 1) (by simp; omega)
              rw [hln, show so.length + 1 + j = so.length + (j + 1) by omega, h1]
              rfl)
            rw [hln, ← unhide ET] at QI
            replace QI := hide QI
            clear HRb HRAb HRA HLb HBb HLa HBa hln ET
            have EA : Hid (seekT H S b0 bs so (best, has) (i + 1) = seekT H S b0 bs so (best, has) (i + 1)) := rfl
            generalize hK2 : seekT H S b0 bs so (best, has) (i + 1) = K2 at QI
            have HK2 := hide hK2
            obtain ⟨A2, hs2⟩ := K2
            dsimp only at QI
            clear hK2 EA
            go_wp2_with fail
            refine (unhide QI).mono ?_
            rintro e w5 ⟨a5, n5, c5, rfl, hR5, hb5'⟩
            have hn5 : n5 = A2.length := by
              obtain ⟨_, _, e5, _⟩ := hR5
              simp only [Value.slice.injEq] at e5
              exact e5.2.1
            subst hn5
            have HR5 := hide hR5
            have HW5 := hide (Below.step (unhide HWb) hb5')
            clear hR5 hb5' QI HWb
            go_wp2
            go_roundg (S.length - (i + 1))
            case measure => omega
            case rel => exact ⟨i + 1, c5, a5, A2, hs2, by omega, rfl, by go_num, rfl, rfl, (unhide HK2).symm, unhide HR5, unhide HW5⟩
      · have hie : i = S.length := by omega
        subst hie
        have E : Hid (seek H S (b0 :: bs) so (best, has) = (A, hs)) := (unhide ESK).trans (unhide EA).symm
        have hii : ¬ (S.length : Int) < S.length := by omega
        clear ESK EA
        go_wp2
        refine bodyPost_ret (v := .tuple #[.slice ba A.length bc, .bool hs]) (by simp [results, Try.results82, go_sem]) rfl ⟨_, _, _, by rw [unhide E], by rw [unhide E]; exact unhide HRA, unhide HW⟩

set_option maxRecDepth 10000 in
set_option maxHeartbeats 25600000 in
theorem specFewest_any (v0 v1 : Value) (H : List HatchT) (L : List BoxT) (w : World) (h0 : RHatch w v0 H) (h1 : RBox w v1 L) :
    Calls Try.prog 23 #[v0, v1] w fun e w' => ∃ a n cp, e = .returned (.tuple #[.slice a n cp, .bool (fewV H L).2]) ∧ RStow w' (.slice a n cp) (fewV H L).1 ∧ Below w.heap.size w w' := by
  have HRH := hide h0
  have HRX := hide h1
  obtain ⟨ho, hcap, rfl, hhl, hhm, hhc⟩ := h0
  obtain ⟨ao, cap, rfl, hl, hm, hc⟩ := h1
  unfold maxLen at hm hhm
  have HC := hide hc
  have HHC := hide hhc
  clear hc hhc
  have ENot : Hid (hatB H = false ∨ stwB L = false ∨ 8 < (spots H).length → fewV H L = ([], false)) := fewV_not
  have EGo : Hid (hatB H = true → stwB L = true → (spots H).length ≤ 8 → fewV H L = seek H (spots H) L [] ([], false)) := fewV_go
  have ELong : Hid (¬ L.length ≤ 5 → stwB L = false) := stwB_long
  have EBad : Hid (∀ i, i < L.length → boxT (bO L i) = false ∨ unB L i = false → stwB L = false) := fun i => stwB_bad
  have EAll : Hid (L.length ≤ 5 → (∀ i, i < L.length → boxT (bO L i) = true ∧ unB L i = true) → stwB L = true) := stwB_all
  have EHL : Hid (hatB H = true → 1 ≤ H.length ∧ H.length ≤ 6) := hatB_len
  have EHA : Hid (hatB H = true → ∀ i, i < H.length → hat1 (H.getD i default) = true) := fun h i hi => hatB_at h hi
  have Q0 := hide (specHatchesOk_any (.slice ho H.length hcap) H w (unhide HRH))
  generalize hatB H = hb at *
  generalize stwB L = sb at *
  go_enter Try.func23, Try.ntmps23
  go_wp2_with fail
  refine (unhide Q0).mono ?_
  rintro e w1 ⟨rfl, hb'⟩
  have HW := hide hb'
  clear hb' Q0
  cases hb with
  | false =>
    have E := hide (unhide ENot (Or.inl rfl))
    have HNr := hide (rowB_new 44 9 eStow w1 w.heap.size (unhide HW).size)
    have HWr := hide (Below.step (unhide HW) (Below.alloc1 w1 (.cells #[] 44)))
    go_wp2
    refine bodyPost_ret (v := .tuple #[.slice (some ⟨w1.heap.size, 0, none⟩) 0 0, .bool false]) (by simp [results, Try.results23, go_sem]) rfl ⟨_, _, _, by rw [unhide E], by rw [unhide E]; exact (unhide HNr).recs (by decide), unhide HWr⟩
  | true =>
  replace EHL := unhide EHL rfl
  replace EHA := hide (unhide EHA rfl)
  replace EGo := hide (unhide EGo rfl)
  obtain ⟨hh1, hh6⟩ := EHL
  by_cases h5 : 5 < L.length
  · have h5i : (5 : Int) < L.length := by omega
    have E := hide (unhide ENot (Or.inr (Or.inl (unhide ELong (by omega)))))
    have HNr := hide (rowB_new 44 9 eStow w1 w.heap.size (unhide HW).size)
    have HWr := hide (Below.step (unhide HW) (Below.alloc1 w1 (.cells #[] 44)))
    go_wp2
    refine bodyPost_ret (v := .tuple #[.slice (some ⟨w1.heap.size, 0, none⟩) 0 0, .bool false]) (by simp [results, Try.results23, go_sem]) rfl ⟨_, _, _, by rw [unhide E], by rw [unhide E]; exact (unhide HNr).recs (by decide), unhide HWr⟩
  have h5i : ¬ (5 : Int) < L.length := by omega
  have hl5 : L.length ≤ 5 := by omega
  replace EAll := hide (unhide EAll hl5)
  clear ELong h5
  go_wp2
  go_loopg [6] L.length (fun g iv wr => ∃ i : Nat, i ≤ L.length ∧ g = L.length - i ∧ iv = .int .i64 i ∧ Hid (∀ r, r < i → boxT (bO L r) = true ∧ unB L r = true) ∧ Hid (Below w.heap.size w wr))
  case atStart => exact ⟨0, Nat.zero_le _, rfl, rfl, fun r hr => by omega, unhide HW⟩
  case round =>
    clear HW
    obtain ⟨i, hi, rfl, rfl, HA, HW⟩ := hrel
    by_cases hin : i < L.length
    · have hii : (i : Int) < L.length := by omega
      replace EBad := hide (unhide EBad i hin)
      have EUB : Hid (∀ k, k < i → (bO L k).1 = (bO L i).1 → unB L i = false) := fun k => unB_bad
      have EUA : Hid ((∀ k, k < i → (bO L k).1 ≠ (bO L i).1) → unB L i = true) := unB_all
      obtain ⟨b, o, n, wt, cl, co, fr, to, rfl, hc0, hc1, hc2, hc3, hc4, hc5, EX⟩ := recBoxAt (unhide HC) hin
      have HCN := hide (And.intro hc0 (And.intro hc1 (And.intro hc2 (And.intro hc3 (And.intro hc4 hc5)))))
      have EN : Hid ((bO L i).1 = n) := by show _ = _; unfold bO; rw [unhide EX]
      have EO : Hid (boxT (bO L i) = boxB n wt cl fr to) := by show _ = _; unfold bO boxT; rw [unhide EX]
      rw [unhide EN] at EUB EUA
      rw [unhide EO] at EBad
      have HA1 : Hid (boxB n wt cl fr to = true → unB L i = true → ∀ r, r < i + 1 → boxT (bO L r) = true ∧ unB L r = true) := fun h h' r hr => by
        by_cases e : r = i
        · rw [e, unhide EO]; exact ⟨h, h'⟩
        · exact unhide HA r (by omega)
      have Q0 := hide fun V => specBoxOk_any n wt cl co fr to V
      unfold vBox at Q0
      clear hc0 hc1 hc2 hc3 hc4 hc5 EX EO EN HA
      generalize boxB n wt cl fr to = rb at *
      go_wp2
      generalize wr = w2 at *
      go_loopg [7] i (fun g kv wr => ∃ k : Nat, k ≤ i ∧ g = i - k ∧ kv = .int .i64 k ∧ Hid (∀ r, r < k → (bO L r).1 ≠ n) ∧ Hid (Below w.heap.size w wr))
      case atStart => exact ⟨0, Nat.zero_le _, rfl, rfl, fun r hr => by omega, unhide HW⟩
      case round =>
        clear HW
        obtain ⟨k, hk, rfl, rfl, HA, HW⟩ := hrel
        obtain ⟨hc0, hc1, hc2, hc3, hc4, hc5⟩ := unhide HCN
        have g0 := ((unhide HW).cell (lt_of_cell hc0)).trans hc0
        by_cases hkn : k < i
        · have hki : (k : Int) < i := by omega
          have hkl : k < L.length := by omega
          have hkli : (k : Int) < L.length := by omega
          replace EUB := hide (unhide EUB k hkn)
          clear hc0 hc1 hc2 hc3 hc4 hc5
          obtain ⟨b', o', n', wt', cl', co', fr', to', eBO, hc0, hc1, hc2, hc3, hc4, hc5, EX⟩ := recBoxAt (unhide HC) hkl
          simp only [Option.some.injEq, Addr.mk.injEq, and_true] at eBO
          obtain ⟨rfl, rfl⟩ := eBO
          have e0 := ((unhide HW).cell (lt_of_cell hc0)).trans hc0
          have EN : Hid ((bO L k).1 = n') := by show _ = _; unfold bO; rw [unhide EX]
          rw [unhide EN] at EUB
          have HA2 : Hid (n' ≠ n → ∀ r, r < k + 1 → (bO L r).1 ≠ n) := fun h r hr => by
            by_cases e : r = k
            · rw [e, unhide EN]; exact h
            · exact unhide HA r (by omega)
          clear hc0 hc1 hc2 hc3 hc4 hc5 EX EN HA
          by_cases hn : n' = n
          · have hn1 : (n'.toList == n.toList) = true := by rw [name_eq]; simp [hn]
            have E := hide (unhide ENot (Or.inr (Or.inl (unhide EBad (Or.inr (unhide EUB hn))))))
            clear hn HA2 EGo EAll Q0
            go_wp2
            go_quiet (fail)
            replace HW : Hid (Below w.heap.size w (wr.drewN nq)) := Below.step (unhide HW) ⟨rfl, rfl, rfl, Nat.le_refl _, fun _ _ => rfl⟩
            clear e0 g0
            generalize wr.drewN nq = w7 at *
            have HNr := hide (rowB_new 44 9 eStow w7 w.heap.size (unhide HW).size)
            have HWr := hide (Below.step (unhide HW) (Below.alloc1 w7 (.cells #[] 44)))
            go_wp2
            refine bodyPost_ret (v := .tuple #[.slice (some ⟨w7.heap.size, 0, none⟩) 0 0, .bool false]) (by simp [results, Try.results23, go_sem]) rfl ⟨_, _, _, by rw [unhide E], by rw [unhide E]; exact (unhide HNr).recs (by decide), unhide HWr⟩
          · have hn1 : (n'.toList == n.toList) = false := by rw [name_eq]; simp [hn]
            replace HA2 := hide (unhide HA2 hn)
            clear hn
            go_wp2
            go_quiet (fail)
            go_wp2
            go_roundg (i - (k + 1))
            case measure => omega
            case rel => exact ⟨k + 1, by omega, rfl, by go_num, unhide HA2, Below.step (unhide HW) ⟨rfl, rfl, rfl, Nat.le_refl _, fun _ _ => rfl⟩⟩
        · have hki : ¬ (k : Int) < i := by omega
          have EU := unhide EUA (fun r hr => unhide HA r (by omega))
          replace HA1 := hide fun h => unhide HA1 h EU
          have g1 := ((unhide HW).cell (lt_of_cell hc1)).trans hc1
          have g2 := ((unhide HW).cell (lt_of_cell hc2)).trans hc2
          have g3 := ((unhide HW).cell (lt_of_cell hc3)).trans hc3
          have g4 := ((unhide HW).cell (lt_of_cell hc4)).trans hc4
          have g5 := ((unhide HW).cell (lt_of_cell hc5)).trans hc5
          clear EU hc0 hc1 hc2 hc3 hc4 hc5
          go_wp2_with fail
          refine (unhide Q0 _).mono ?_
          rintro e w3 ⟨rfl, hb⟩
          replace HW := hide (Below.step (unhide HW) hb)
          clear hb Q0
          cases rb with
          | false =>
            have E := hide (unhide ENot (Or.inr (Or.inl (unhide EBad (Or.inl rfl)))))
            have HNr := hide (rowB_new 44 9 eStow w3 w.heap.size (unhide HW).size)
            have HWr := hide (Below.step (unhide HW) (Below.alloc1 w3 (.cells #[] 44)))
            go_wp2
            refine bodyPost_ret (v := .tuple #[.slice (some ⟨w3.heap.size, 0, none⟩) 0 0, .bool false]) (by simp [results, Try.results23, go_sem]) rfl ⟨_, _, _, by rw [unhide E], by rw [unhide E]; exact (unhide HNr).recs (by decide), unhide HWr⟩
          | true =>
          replace HA1 := hide (unhide HA1 rfl)
          go_wp2
          go_roundg (L.length - (i + 1))
          case measure => omega
          case rel => exact ⟨i + 1, by omega, rfl, by go_num, unhide HA1, unhide HW⟩
    · have hii : ¬ (i : Int) < L.length := by omega
      have ES := unhide EAll (fun r hr => unhide HA r (by omega))
      replace EGo := hide (unhide EGo ES)
      have HN := hide (rowB_new 29 3 e3 wr w.heap.size (unhide HW).size)
      have HWn := hide (Below.step (unhide HW) (Below.alloc1 wr (.cells #[] 29)))
      clear ES EAll EBad HA HC HW
      go_wp2
      generalize wr.alloc (.cells #[] 29) = w2 at *
      obtain ⟨g0, hg0⟩ : ∃ g, g = wr.heap.size := ⟨_, rfl⟩
      rw [← hg0] at HN ⊢
      clear hg0
      go_loopg [8, 9] H.length (fun g ov kv wr => ∃ (k m c : Nat) (ro : Option Addr), k ≤ H.length ∧ g = H.length - k ∧ kv = .int .i64 k ∧ ov = .slice ro m c ∧ m ≤ k * 36 ∧ Hid (RowB 29 3 e3 w.heap.size wr ro m c (spB H k)) ∧ Hid (Below w.heap.size w wr))
      case atStart => exact ⟨0, 0, 0, some ⟨g0, 0, none⟩, Nat.zero_le _, rfl, rfl, rfl, Nat.zero_le _, unhide HN, unhide HWn⟩
      case round =>
        clear HN HWn
        obtain ⟨k, m, c, ro, hk, rfl, rfl, rfl, hmk, HL, HW⟩ := hrel
        by_cases hkn : k < H.length
        · have hki : (k : Int) < H.length := by omega
          have HAT := hide (unhide EHA k hkn)
          obtain ⟨b, o, x0, x1, x2, x3, rfl, hc0, hc1, hc2, hc3, EX⟩ := recHatchAt (unhide HHC) hkn
          have hx : (1 ≤ x0 ∧ x0 ≤ 6) ∧ 1 ≤ x1 ∧ x1 ≤ 6 := by
            have h := unhide HAT
            rw [unhide EX] at h
            simp only [hat1, Bool.and_eq_true] at h
            exact ⟨inB_true h.1.1.1, inB_true h.1.1.2⟩
          obtain ⟨⟨y0, y1⟩, y2, y3⟩ := hx
          obtain ⟨R, rfl⟩ : ∃ n : Nat, x0 = (n : Int) := ⟨x0.toNat, by omega⟩
          obtain ⟨T, rfl⟩ : ∃ n : Nat, x1 = (n : Int) := ⟨x1.toNat, by omega⟩
          have EB : Hid (spB H (k + 1) = spB H k ++ spR (k : Int) T R) := by show _ = _; rw [spB, unhide EX]; rfl
          have HCN := hide (And.intro hc0 hc1)
          have HL1 : Hid (RowB 29 3 e3 w.heap.size wr ro m c (spB H k ++ spR (k : Int) T 0)) := by
            show RowB _ _ _ _ _ _ _ _ _
            rw [spR, List.append_nil]
            exact unhide HL
          clear hc0 hc1 hc2 hc3 EX HAT HL
          go_wp2
          generalize wr = w3 at *
          go_loopg [8, 10] R (fun g ov rv wr => ∃ (r m1 c1 : Nat) (r1 : Option Addr), r ≤ R ∧ g = R - r ∧ rv = .int .i64 r ∧ ov = .slice r1 m1 c1 ∧ m1 ≤ k * 36 + r * 6 ∧ Hid (RowB 29 3 e3 w.heap.size wr r1 m1 c1 (spB H k ++ spR (k : Int) T r)) ∧ Hid (Below w.heap.size w wr))
          case atStart => exact ⟨0, m, c, ro, Nat.zero_le _, rfl, rfl, rfl, by omega, unhide HL1, unhide HW⟩
          case round =>
            clear HL1 HW hmk
            obtain ⟨r, m1, c1, r1, hr, rfl, rfl, rfl, hm1, HL, HW⟩ := hrel
            have g0 := ((unhide HW).cell (lt_of_cell (unhide HCN).1)).trans (unhide HCN).1
            by_cases hrn : r < R
            · have hri : (r : Int) < R := by omega
              have ER : Hid (spB H k ++ spR (k : Int) T (r + 1) = (spB H k ++ spR (k : Int) T r) ++ spT (k : Int) (r : Int) T) := by show _ = _; rw [spR, List.append_assoc]
              have HL1 : Hid (RowB 29 3 e3 w.heap.size wr r1 m1 c1 ((spB H k ++ spR (k : Int) T r) ++ spT (k : Int) (r : Int) 0)) := by
                show RowB _ _ _ _ _ _ _ _ _
                rw [spT, List.append_nil]
                exact unhide HL
              clear HL
              go_wp2
              clear g0
              generalize wr = w4 at *
              go_loopg [8, 11] T (fun g ov tv wr => ∃ (t m2 c2 : Nat) (r2 : Option Addr), t ≤ T ∧ g = T - t ∧ tv = .int .i64 t ∧ ov = .slice r2 m2 c2 ∧ m2 ≤ k * 36 + r * 6 + t ∧ Hid (RowB 29 3 e3 w.heap.size wr r2 m2 c2 ((spB H k ++ spR (k : Int) T r) ++ spT (k : Int) (r : Int) t)) ∧ Hid (Below w.heap.size w wr))
              case atStart => exact ⟨0, m1, c1, r1, Nat.zero_le _, rfl, rfl, rfl, by omega, unhide HL1, unhide HW⟩
              case round =>
                clear HL1 HW hm1
                obtain ⟨t, m2, c2, r2, ht, rfl, rfl, rfl, hm2, HL, HW⟩ := hrel
                have g1 := ((unhide HW).cell (lt_of_cell (unhide HCN).2)).trans (unhide HCN).2
                by_cases htn : t < T
                · have hti : (t : Int) < T := by omega
                  have ET : Hid ((spB H k ++ spR (k : Int) T r) ++ spT (k : Int) (r : Int) (t + 1) = ((spB H k ++ spR (k : Int) T r) ++ spT (k : Int) (r : Int) t) ++ [((k : Int), (r : Int), (t : Int))]) := by show _ = _; rw [spT]; simp only [List.append_assoc]
                  have hA2 := Below.alloc1 wr (.cells #[.int .i64 (k : Int), .int .i64 (r : Int), .int .i64 (t : Int)] 29)
                  have HG := hide (ownV_alloc wr #[.int .i64 (k : Int), .int .i64 (r : Int), .int .i64 (t : Int)] 29)
                  have HW1 := hide (Below.step (unhide HW) hA2)
                  have HL1 := hide ((unhide HL).below hA2)
                  have hws := (unhide HW1).size
                  clear hA2
                  go_wp2_with (at_builtin; go_must (refine wpList_appRow tySpot _ rfl _ _ rfl w.heap.size r2 m2 c2 ((spB H k ++ spR (k : Int) T r) ++ spT (k : Int) (r : Int) t) rfl (unhide HL1) hws (by omega) wr.heap.size ((k : Int), (r : Int), (t : Int)) 1 rfl (unhide HG) ?_); intro g' cap' w4 hL hK hBg hat; have HL2 := hide hL; have HW2 := hide (onRow_below (unhide HW1) (unhide HL1) (by decide) hws hK); clear hL hK hat)
                  go_roundg (T - (t + 1))
                  case measure => omega
                  case rel =>
                    refine ⟨t + 1, m2 + 1, cap', _, by omega, rfl, by go_num, rfl, by omega, ?_, unhide HW2⟩
                    rw [unhide ET]
                    exact unhide HL2
                · have hti : ¬ (t : Int) < T := by omega
                  have HL1 : Hid (RowB 29 3 e3 w.heap.size wr r2 m2 c2 (spB H k ++ spR (k : Int) T (r + 1))) := by
                    have h := unhide HL
                    rw [show t = T by omega] at h
                    rw [unhide ER]
                    exact h
                  clear HL ER
                  go_wp2
                  go_roundg (R - (r + 1))
                  case measure => omega
                  case rel => exact ⟨r + 1, m2, c2, r2, by omega, rfl, by go_num, rfl, by omega, unhide HL1, unhide HW⟩
            · have hri : ¬ (r : Int) < R := by omega
              have HL1 : Hid (RowB 29 3 e3 w.heap.size wr r1 m1 c1 (spB H (k + 1))) := by
                have h := unhide HL
                rw [show r = R by omega] at h
                rw [unhide EB]
                exact h
              clear HL EB
              go_wp2
              go_roundg (H.length - (k + 1))
              case measure => omega
              case rel => exact ⟨k + 1, m1, c1, r1, by omega, rfl, by go_num, rfl, by omega, unhide HL1, unhide HW⟩
        · have hki : ¬ (k : Int) < H.length := by omega
          have HL1 : Hid (RowB 29 3 e3 w.heap.size wr ro m c (spots H)) := by
            have h := unhide HL
            rw [show k = H.length by omega] at h
            exact h
          have HR1 := hide ((unhide HL1).recs (by decide))
          have hml : m = (spots H).length := by
            obtain ⟨_, _, e, _⟩ := unhide HR1
            simp only [Value.slice.injEq] at e
            exact e.2.1
          clear HL HL1 EHA HHC
          generalize spots H = SP at *
          subst hml
          by_cases h8 : 8 < SP.length
          · have h8i : (8 : Int) < SP.length := by omega
            have E := hide (unhide ENot (Or.inr (Or.inr h8)))
            clear ENot EGo
            have HNr := hide (rowB_new 44 9 eStow wr w.heap.size (unhide HW).size)
            have HWr := hide (Below.step (unhide HW) (Below.alloc1 wr (.cells #[] 44)))
            go_wp2
            refine bodyPost_ret (v := .tuple #[.slice (some ⟨wr.heap.size, 0, none⟩) 0 0, .bool false]) (by simp [results, Try.results23, go_sem]) rfl ⟨_, _, _, by rw [unhide E], by rw [unhide E]; exact (unhide HNr).recs (by decide), unhide HWr⟩
          have h8i : ¬ (8 : Int) < SP.length := by omega
          have EG := hide (unhide EGo (by omega))
          clear ENot EGo
          have HN1 := hide (rowB_new 44 9 eStow wr w.heap.size (unhide HW).size)
          have HW1 := hide (Below.step (unhide HW) (Below.alloc1 wr (.cells #[] 44)))
          have HN2 := hide (rowB_new 44 9 eStow (wr.alloc (.cells #[] 44)) w.heap.size (unhide HW1).size)
          have hA2 := Below.alloc1 (wr.alloc (.cells #[] 44)) (.cells #[] 44)
          have HW2 := hide (Below.step (unhide HW1) hA2)
          have QS := l12Seek_any H L SP ho hcap ao cap ro c hl5 L [] [] false (some ⟨wr.heap.size, 0, none⟩) 0 (some ⟨wr.heap.size + 1, 0, none⟩) 0 ((wr.alloc (.cells #[] 44)).alloc (.cells #[] 44)) (fun b rest e => by rw [e]; exact ⟨rfl, by simp⟩) (by simp) (by simp) ((unhide HRH).below (unhide HW2)) ((unhide HRX).below (unhide HW2)) ((unhide HR1).below (Below.step (Below.alloc1 _ _) hA2)) (((unhide HN1).below hA2).recs (by decide)) (by
            have h := (unhide HN2).recs (by decide)
            simp only [World.size_alloc] at h
            exact h) (fun j _ => by simp)
          rw [← unhide EG] at QS
          replace QS := hide QS
          clear HN1 HN2 HW1 hA2 HR1 HW
          go_wp2_with fail
          refine (unhide QS).mono ?_
          rintro e w5 ⟨a5, n5, c5, rfl, hR5, hb5'⟩
          have HR5 := hide hR5
          have HW5 := hide (Below.step (unhide HW2) hb5')
          clear hR5 hb5' QS HW2
          go_wp2
          refine bodyPost_ret (v := .tuple #[.slice a5 n5 c5, .bool (fewV H L).2]) (by simp [results, Try.results23, go_sem]) rfl ⟨_, _, _, rfl, unhide HR5, unhide HW5⟩

/-- How far the spots have been tried. -/
def tryT (H : List HatchT) (S : List I3) (b : BoxT) (bs : List BoxT) (so : List StowT) (acc : AccT) : Nat → AccT
  | 0 => acc
  | i + 1 => if hasB so (S.getD i default) = true then tryT H S b bs so acc i else tryF H S bs (so ++ [mkS b (S.getD i default)]) (tryT H S b bs so acc i)
theorem tryT_take (H : List HatchT) (S : List I3) (b : BoxT) (bs : List BoxT) (so : List StowT) (acc : AccT) : ∀ i, i ≤ S.length → (S.take i).foldl (fun a s => if hasB so s = true then a else tryF H S bs (so ++ [mkS b s]) a) acc = tryT H S b bs so acc i
  | 0, _ => rfl
  | i + 1, hi => by
    rw [List.take_add_one, List.getElem?_eq_getElem (by omega), List.foldl_append, tryT_take H S b bs so acc i (by omega), tryT, getD_lt (by omega)]
    rfl
theorem tryF_len (H : List HatchT) (S : List I3) (bs : List BoxT) (so : List StowT) (acc : AccT) (h1 : so.length + bs.length ≤ 5) (h2 : acc.1.length ≤ 5) : (tryF H S bs so acc).1.length ≤ 5 := by
  rw [try_seek]
  exact seek_len H S bs so acc h1 h2
theorem tryT_len (H : List HatchT) (S : List I3) (b : BoxT) (bs : List BoxT) (so : List StowT) (acc : AccT) (h1 : so.length + (bs.length + 1) ≤ 5) (h2 : acc.1.length ≤ 5) : ∀ i, (tryT H S b bs so acc i).1.length ≤ 5
  | 0 => h2
  | i + 1 => by
    rw [tryT]
    split
    · exact tryT_len H S b bs so acc h1 h2 i
    · exact tryF_len H S bs _ _ (by rw [List.length_append]; simp; omega) (tryT_len H S b bs so acc h1 h2 i)
theorem tryF_cut (H : List HatchT) (S : List I3) (bs : List BoxT) (so A : List StowT) (h : over A ≤ over so) : tryF H S bs so (A, true) = (A, true) := by
  cases bs with
  | nil => rw [tryF, if_pos ⟨rfl, h⟩]
  | cons b bs => rw [tryF, if_pos ⟨rfl, h⟩]
theorem tryF_nil0 (H : List HatchT) (S : List I3) (so A : List StowT) (hs : Bool) (h : ¬ (hs = true ∧ over A ≤ over so)) (hc : (stowC H so).1 = 0) : tryF H S [] so (A, hs) = (so, true) := by rw [tryF, if_neg h, if_pos hc]
theorem tryF_nil1 (H : List HatchT) (S : List I3) (so A : List StowT) (hs : Bool) (h : ¬ (hs = true ∧ over A ≤ over so)) (hc : (stowC H so).1 ≠ 0) : tryF H S [] so (A, hs) = (A, hs) := by rw [tryF, if_neg h, if_neg hc]
theorem tryF_cons0 (H : List HatchT) (S : List I3) (b : BoxT) (bs : List BoxT) (so A : List StowT) (hs : Bool) (h : ¬ (hs = true ∧ over A ≤ over so)) (hc : (stowC H so).1 = 0 ∨ (stowC H so).1 = 4) : tryF H S (b :: bs) so (A, hs) = tryT H S b bs so (A, hs) S.length := by
  rw [tryF, if_neg h, if_pos hc, ← tryT_take H S b bs so (A, hs) S.length (Nat.le_refl _), List.take_length]
theorem tryF_cons1 (H : List HatchT) (S : List I3) (b : BoxT) (bs : List BoxT) (so A : List StowT) (hs : Bool) (h : ¬ (hs = true ∧ over A ≤ over so)) (hc : ¬ ((stowC H so).1 = 0 ∨ (stowC H so).1 = 4)) : tryF H S (b :: bs) so (A, hs) = (A, hs) := by rw [tryF, if_neg h, if_neg hc]

/-- A row with its last record left off. -/
theorem RowB.front {α : Type} [Inhabited α] {T : TypeId} {n : Nat} {enc : α → Nat → Value} {B : Nat} {w : World} {ao : Option Addr} {m cap : Nat} {L : List α} {x : α} (h : RowB T n enc B w ao (m + 1) cap (L ++ [x])) (hn : 0 < n) : RowB T n enc B w ao m cap L := by
  have hl := h.len hn
  rw [List.length_append] at hl
  have hl' : L.length = m := by simpa using hl
  refine ⟨by rw [recCells_length, hl'], ?_⟩
  rcases h.2 with ⟨_, h0⟩ | ⟨g, cp, cur, hv, hg, hh, hc, hm, hs, ht⟩
  · omega
  · simp only [Value.slice.injEq, true_and] at hv
    obtain ⟨rfl, rfl⟩ := hv
    refine Or.inr ⟨g, cap, cur, rfl, hg, hh, by omega, hm, hs, ?_⟩
    have h2 := congrArg (List.take (m * n)) ht
    rw [List.take_take, Nat.min_eq_left (Nat.mul_le_mul_right n (Nat.le_succ m)), recCells_append n hn, List.take_left' (by rw [recCells_length, hl'])] at h2
    exact h2

/-- Where the boxes of the search lie. -/
structure PP (U : World) (M p0 p1 p2 p5 p6 : Nat) : Prop where
  h0 : U.heap.size ≤ p5
  h1 : p5 < p1
  h2 : p1 < p2
  h3 : p2 < p0
  h4 : p0 < p6
  h5 : p6 < M

/-- The search in memory, but the way's box. -/
structure TrS (U : World) (M p0 p2 p5 p6 : Nat) (fv sv : Value) (w : World) (W A : List StowT) (hs : Bool) (ao : Option Addr) (cap : Nat) (bo : Option Addr) (bc : Nat) : Prop where
  bel : Below U.heap.size U w
  msz : M ≤ w.heap.size
  o0 : OwnV w p0 [.bool hs]
  o2 : OwnV w p2 [.slice bo A.length bc]
  o5 : OwnV w p5 [sv]
  o6 : OwnV w p6 [fv]
  row : RowB 44 9 eStow M w ao W.length cap W
  best : OwnR 9 eStow M w (.slice bo A.length bc) A
  ap : ∀ g, ao = some ⟨g, 0, none⟩ → bo ≠ some ⟨g, 0, none⟩
  bl : ∀ g, bo = some ⟨g, 0, none⟩ → g < w.heap.size

section
variable {U : World} {M p0 p1 p2 p5 p6 : Nat} {fv sv : Value} {w w' : World} {W A : List StowT} {hs : Bool} {ao : Option Addr} {cap : Nat} {bo : Option Addr} {bc : Nat}
theorem OwnR.keptAt {v : Value} {B : Nat} {P : Nat → Prop} (h : OwnR 9 eStow B w v A) (hk : Kept P w w') (hP : ∀ g n c, v = .slice (some ⟨g, 0, none⟩) n c → B ≤ g → ¬ P g) : OwnR 9 eStow B w' v A := by
  obtain ⟨ao, cap, rfl, h1, h2, h3⟩ := h
  refine ⟨ao, cap, rfl, h1, h2, fun hne => ?_⟩
  obtain ⟨g, rfl, hg, ho⟩ := h3 hne
  exact ⟨g, rfl, hg, ho.kept hk (hP g _ _ rfl hg)⟩
theorem TrS.below (h : TrS U M p0 p2 p5 p6 fv sv w W A hs ao cap bo bc) (hb : Below w.heap.size w w') : TrS U M p0 p2 p5 p6 fv sv w' W A hs ao cap bo bc :=
  ⟨Below.step h.bel hb, Nat.le_trans h.msz hb.size, h.o0.step hb, h.o2.step hb, h.o5.step hb, h.o6.step hb, h.row.below hb, h.best.below hb, h.ap, fun g e => Nat.lt_of_lt_of_le (h.bl g e) hb.size⟩
theorem TrS.stow (h : TrS U M p0 p2 p5 p6 fv sv w W A hs ao cap bo bc) : RStow w (.slice ao W.length cap) W := h.row.recs (by decide)
theorem TrS.bst (h : TrS U M p0 p2 p5 p6 fv sv w W A hs ao cap bo bc) : RStow w (.slice bo A.length bc) A := h.best.intsIn
theorem kept_set (p : Nat) (v : Value) : Kept (fun k => k = p) w (w.setCell ⟨p, 0, none⟩ v) := Kept.setCell (T := fun k => k = p) (Kept.refl _ w) (p := ⟨p, 0, none⟩) rfl v
theorem TrS.set1 (h : TrS U M p0 p2 p5 p6 fv sv w W A hs ao cap bo bc) (hp : PP U M p0 p1 p2 p5 p6) (v : Value) : TrS U M p0 p2 p5 p6 fv sv (w.setCell ⟨p1, 0, none⟩ v) W A hs ao cap bo bc := by
  have hk := kept_set (w := w) p1 v
  obtain ⟨a0, a1, a2, a3, a4, a5⟩ := hp
  exact ⟨h.bel.trans (hk.below h.bel.size (fun k e => by omega)), Nat.le_trans h.msz hk.size, h.o0.kept hk (by omega), h.o2.kept hk (by omega), h.o5.kept hk (by omega), h.o6.kept hk (by omega), h.row.kept hk (fun g _ hg _ e => by omega), h.best.keptAt hk (fun g _ _ _ hg e => by omega), h.ap, fun g e => Nat.lt_of_lt_of_le (h.bl g e) hk.size⟩
theorem TrS.app {o : Obj} {g3 cap3 : Nat} {x : StowT} (h : TrS U M p0 p2 p5 p6 fv sv w W A hs ao cap bo bc) (hp : PP U M p0 p1 p2 p5 p6) (hL : RowB 44 9 eStow M w' (some ⟨g3, 0, none⟩) (W.length + 1) cap3 (W ++ [x])) (hK : Kept (fun k => ao = some ⟨k, 0, none⟩) (w.alloc o) w') (hat : ao = some ⟨g3, 0, none⟩ ∨ g3 = (w.alloc o).heap.size) : TrS U M p0 p2 p5 p6 fv sv w' (W ++ [x]) A hs (some ⟨g3, 0, none⟩) cap3 bo bc := by
  obtain ⟨a0, a1, a2, a3, a4, a5⟩ := hp
  have hb := Below.alloc1 w o
  have hM : ∀ k, ao = some ⟨k, 0, none⟩ → M ≤ k := fun k e => by
    rcases h.row.parts (by decide) with ⟨e2, _⟩ | ⟨g, e2, hg, _⟩
    · rw [e] at e2; cases e2
    · rw [e] at e2; simp only [Option.some.injEq, Addr.mk.injEq, and_true] at e2; omega
  have hw := h.below hb
  refine ⟨hw.bel.trans (hK.below hw.bel.size (fun k e => by have := hM k e; omega)), Nat.le_trans hw.msz hK.size, hw.o0.kept hK (fun e => by have := hM _ e; omega), hw.o2.kept hK (fun e => by have := hM _ e; omega), hw.o5.kept hK (fun e => by have := hM _ e; omega), hw.o6.kept hK (fun e => by have := hM _ e; omega), by rw [List.length_append]; exact hL, hw.best.keptAt hK (fun g n c e _ e2 => ?_), fun g e => ?_, fun g e => Nat.lt_of_lt_of_le (hw.bl g e) hK.size⟩
  · simp only [Value.slice.injEq] at e
    exact h.ap g e2 e.1
  · simp only [Option.some.injEq, Addr.mk.injEq, and_true] at e
    subst e
    intro e
    rcases hat with h1 | h1
    · exact h.ap _ h1 e
    · have := hw.bl _ e
      omega
theorem TrS.setBest {w1 : World} (h : TrS U M p0 p2 p5 p6 fv sv w W A hs ao cap bo bc) (hp : PP U M p0 p1 p2 p5 p6) (hb : Below w.heap.size w w1) (ho : OwnV w1 w.heap.size (recCells 9 eStow W)) (hl : W.length ≤ 5) :
    TrS U M p0 p2 p5 p6 fv sv ((w1.setCell ⟨p2, 0, none⟩ (.slice (some ⟨w.heap.size, 0, none⟩) W.length W.length)).setCell ⟨p0, 0, none⟩ (.bool true)) W W true ao cap (some ⟨w.heap.size, 0, none⟩) W.length := by
  obtain ⟨a0, a1, a2, a3, a4, a5⟩ := hp
  have hw := h.below hb
  have hms := h.msz
  have k1 := kept_set (w := w1) p2 (.slice (some ⟨w.heap.size, 0, none⟩) W.length W.length)
  have k2 := kept_set (w := w1.setCell ⟨p2, 0, none⟩ (.slice (some ⟨w.heap.size, 0, none⟩) W.length W.length)) p0 (.bool true)
  have hk : Kept (fun k => k = p2 ∨ k = p0) w1 ((w1.setCell ⟨p2, 0, none⟩ (.slice (some ⟨w.heap.size, 0, none⟩) W.length W.length)).setCell ⟨p0, 0, none⟩ (.bool true)) := (k1.mono (fun _ _ => Or.inl)).trans (k2.mono (fun _ _ => Or.inr))
  refine ⟨hw.bel.trans (hk.below hw.bel.size (fun k e => by omega)), Nat.le_trans hw.msz hk.size, ?_, ?_, hw.o5.kept hk (by omega), hw.o6.kept hk (by omega), hw.row.kept hk (fun g _ hg _ e => by omega), ⟨_, _, rfl, Nat.le_refl _, by unfold maxLen; omega, fun _ => ⟨_, rfl, hms, ho.kept hk (by omega)⟩⟩, fun g e e2 => ?_, fun g e => ?_⟩
  · exact (hw.o0.kept k1 (by omega)).set 0 (.bool true) (by simp)
  · exact ((hw.o2.set 0 (.slice (some ⟨w.heap.size, 0, none⟩) W.length W.length) (by simp))).kept k2 (by omega)
  · simp only [Option.some.injEq, Addr.mk.injEq, and_true] at e2
    rcases h.row.parts (by decide) with ⟨e3, _⟩ | ⟨g2, e3, _, hlt, _⟩
    · rw [e] at e3; cases e3
    · rw [e] at e3; simp only [Option.some.injEq, Addr.mk.injEq, and_true] at e3; omega
  · simp only [Option.some.injEq, Addr.mk.injEq, and_true] at e
    have := ho.lt
    have := hk.size
    omega
end

theorem TrS.front {U : World} {M p0 p2 p5 p6 : Nat} {fv sv : Value} {w : World} {W A : List StowT} {x : StowT} {hs : Bool} {ao : Option Addr} {cap : Nat} {bo : Option Addr} {bc : Nat} (h : TrS U M p0 p2 p5 p6 fv sv w (W ++ [x]) A hs ao cap bo bc) : TrS U M p0 p2 p5 p6 fv sv w W A hs ao cap bo bc :=
  ⟨h.bel, h.msz, h.o0, h.o2, h.o5, h.o6, by
    have h' := h.row
    rw [List.length_append] at h'
    exact h'.front (by decide), h.best, h.ap, h.bl⟩

/-- What the search leaves. -/
def TryAns (H : List HatchT) (S : List I3) (U : World) (M p0 p1 p2 p5 p6 : Nat) (fv sv : Value) (w : World) (W : List StowT) (bs : List BoxT) (acc : AccT) : Prop :=
  ∃ A hs ao cap bo bc, (A, hs) = tryF H S bs W acc ∧ TrS U M p0 p2 p5 p6 fv sv w W A hs ao cap bo bc ∧ OwnV w p1 [.slice ao W.length cap]
theorem tryAns_mk {H : List HatchT} {S : List I3} {U : World} {M p0 p1 p2 p5 p6 : Nat} {fv sv : Value} {w : World} {W A : List StowT} {bs : List BoxT} {acc : AccT} {hs : Bool} {ao : Option Addr} {cap : Nat} {bo : Option Addr} {bc : Nat} (h1 : (A, hs) = tryF H S bs W acc) (h2 : TrS U M p0 p2 p5 p6 fv sv w W A hs ao cap bo bc) (h3 : OwnV w p1 [.slice ao W.length cap]) : TryAns H S U M p0 p1 p2 p5 p6 fv sv w W bs acc := by
  unfold TryAns
  exact ⟨A, hs, ao, cap, bo, bc, h1, h2, h3⟩
theorem tryAns_out {H : List HatchT} {S : List I3} {U : World} {M p0 p1 p2 p5 p6 : Nat} {fv sv : Value} {w : World} {W : List StowT} {bs : List BoxT} {acc : AccT} (h : TryAns H S U M p0 p1 p2 p5 p6 fv sv w W bs acc) : ∃ A hs ao cap bo bc, (A, hs) = tryF H S bs W acc ∧ TrS U M p0 p2 p5 p6 fv sv w W A hs ao cap bo bc ∧ OwnV w p1 [.slice ao W.length cap] := h

set_option linter.unusedSimpArgs false in
set_option maxRecDepth 10000 in
set_option maxHeartbeats 25600000 in
theorem fewTry_any (H : List HatchT) (BX : List BoxT) (S : List I3) (U : World) (M p0 p1 p2 p3 p4 p5 p6 : Nat) (ho : Option Addr) (hcap : Nat) (xo : Option Addr) (xcap : Nat) (po : Option Addr) (pcap : Nat) (hb5 : BX.length ≤ 5) (hp : PP U M p0 p1 p2 p5 p6)
    (hH : RHatch U (.slice ho H.length hcap) H) (hX : RBox U (.slice xo BX.length xcap) BX) (hS : R3 U (.slice po S.length pcap) S) (k3 : U.cell? ⟨p3, 0, none⟩ = some (.slice ho H.length hcap)) (k4 : U.cell? ⟨p4, 0, none⟩ = some (.slice xo BX.length xcap)) : ∀ (bs : List BoxT) (W A : List StowT) (hs : Bool) (ao : Option Addr) (cap : Nat) (bo : Option Addr) (bc : Nat) (w : World),
    W.length + bs.length = BX.length → (∀ i, i < bs.length → BX.getD (W.length + i) default = bs.getD i default) → A.length ≤ 5 → TrS U M p0 p2 p5 p6 (.func (.func 77) #[] #[.pointer (some ⟨p0, 0, none⟩), .pointer (some ⟨p1, 0, none⟩), .pointer (some ⟨p2, 0, none⟩), .pointer (some ⟨p3, 0, none⟩), .pointer (some ⟨p4, 0, none⟩), .pointer (some ⟨p5, 0, none⟩), .pointer (some ⟨p6, 0, none⟩)]) (.slice po S.length pcap) w W A hs ao cap bo bc → OwnV w p1 [.slice ao W.length cap] →
    Calls Try.prog 77 #[.pointer (some ⟨p0, 0, none⟩), .pointer (some ⟨p1, 0, none⟩), .pointer (some ⟨p2, 0, none⟩), .pointer (some ⟨p3, 0, none⟩), .pointer (some ⟨p4, 0, none⟩), .pointer (some ⟨p5, 0, none⟩), .pointer (some ⟨p6, 0, none⟩)] w fun e w' => e = .returned (.tuple #[]) ∧ TryAns H S U M p0 p1 p2 p5 p6 (.func (.func 77) #[] #[.pointer (some ⟨p0, 0, none⟩), .pointer (some ⟨p1, 0, none⟩), .pointer (some ⟨p2, 0, none⟩), .pointer (some ⟨p3, 0, none⟩), .pointer (some ⟨p4, 0, none⟩), .pointer (some ⟨p5, 0, none⟩), .pointer (some ⟨p6, 0, none⟩)]) (.slice po S.length pcap) w' W bs (A, hs) := by
  intro bs
  have HPP := hide hp
  have HRH := hide hH
  have HRX := hide hX
  have HRP := hide hS
  have HC3 := hide k3
  have HC4 := hide k4
  obtain ⟨a0, a1, a2, a3, a4, a5⟩ := hp
  clear hH hX hS k3 k4
  induction bs with
  | nil =>
    intro W A hs ao cap bo bc w hlen _ hA5 hT hO1
    have hwl : W.length = BX.length := by simpa using hlen
    have HT := hide hT
    have HO1 := hide hO1
    have QC := hide fun V h1 h2 => implStowCode_any (.slice ho H.length hcap) (.slice ao W.length cap) H W V h1 h2
    have EN0 : Hid (¬ (hs = true ∧ over A ≤ over W) → (stowC H W).1 = 0 → tryF H S [] W (A, hs) = (W, true)) := tryF_nil0 H S W A hs
    have EN1 : Hid (¬ (hs = true ∧ over A ≤ over W) → (stowC H W).1 ≠ 0 → tryF H S [] W (A, hs) = (A, hs)) := tryF_nil1 H S W A hs
    have IHH : True := trivial
    have dl : ((W.length : Int) == (BX.length : Int)) = true := by simp; omega
    have hw5 : W.length ≤ 5 := by omega
    clear hT hO1 hlen hwl
    generalize stowC H W = C at *
    obtain ⟨cd, ck⟩ := C
    dsimp only at QC EN0 EN1
    have c0 := (unhide HT).o0.cell (i := 0) rfl
    have c1 := (unhide HO1).cell (i := 0) rfl
    have c2 := (unhide HT).o2.cell (i := 0) rfl
    cases hs with
    | true =>
      have ECUT : Hid (over A ≤ over W → tryF H S [] W (A, true) = (A, true)) := tryF_cut H S _ W A
      have hcut0 : Hid (¬ over A ≤ over W → ¬ (true = true ∧ over A ≤ over W)) := fun h h' => h h'.2
      have SW := hide fun X : Gr w => overstows_any (.slice ao W.length cap) W X.val (((unhide HT).below X.ok).stow) (by omega)
      have SB := hide fun X : Gr w => overstows_any (.slice bo A.length bc) A X.val (((unhide HT).below X.ok).bst) (by omega)
      have r0 := fun X : Gr w => gr_cell c0 X
      have r1 := fun X : Gr w => gr_cell c1 X
      have r2 := fun X : Gr w => gr_cell c2 X
      have gsome := gr_some w
      by_cases hov : over A ≤ over W
      · have E := hide (unhide ECUT hov)
        have hovi : (over A : Int) ≤ over W := by omega
        have hdec : decide ((over A : Int) ≤ over W) = true := by simp only [decide_eq_true_eq]; exact hovi
        clear ECUT hcut0 hov QC IHH
        generalize over A = oa at *
        generalize over W = ow at *
        go_enter Try.func77, Try.ntmps77
        go_wp2
        refine wp_region_grown (by kernel_rfl) (by kernel_rfl) ?_
        repeat (go_big_quiet_step (fail))
        go_big_quiet_want
        go_big_quiet_op
        go_big_quiet_call (exact calls_grown (unhide SW _))
        repeat (go_big_quiet_step (fail))
        go_big_quiet_want
        go_big_quiet_op
        go_big_quiet_call (exact calls_grown (unhide SB _))
        repeat (go_big_quiet_step (fail))
        refine wpQuiet_nil ?_
        intro w1 hw1
        obtain ⟨zq, hz⟩ := hw1
        have hb : Below w.heap.size w w1 := hz ▸ zq.ok
        clear hz gsome r0 r1 r2 c0 c1 c2 SW SB
        replace HT := hide ((unhide HT).below hb)
        replace HO1 := hide ((unhide HO1).step hb)
        go_wp2
        refine bodyPost_ret (v := .tuple #[]) (by simp [results, Try.results77, go_sem]) rfl ⟨rfl, tryAns_mk (unhide E).symm (unhide HT) (unhide HO1)⟩
      · have hcut := hide (unhide hcut0 hov)
        have hovi : ¬ (over A : Int) ≤ over W := by omega
        have hdec : decide ((over A : Int) ≤ over W) = false := by simp only [decide_eq_false_iff_not]; exact hovi
        clear ECUT hcut0 hovi hdec
        generalize hoa : over A = oa at SB hov
        generalize how : over W = ow at SW hov
        clear hoa how
        go_enter Try.func77, Try.ntmps77
        go_wp2
        refine wp_region_grown (by kernel_rfl) (by kernel_rfl) ?_
        repeat (go_big_quiet_step (fail))
        go_big_quiet_want
        go_big_quiet_op
        go_big_quiet_call (exact calls_grown (unhide SW _))
        repeat (go_big_quiet_step (fail))
        go_big_quiet_want
        go_big_quiet_op
        go_big_quiet_call (exact calls_grown (unhide SB _))
        repeat (go_big_quiet_step (fail))
        refine wpQuiet_nil ?_
        intro w1 hw1
        obtain ⟨zq, hz⟩ := hw1
        have hb : Below w.heap.size w w1 := hz ▸ zq.ok
        clear hz gsome r0 r1 r2 c0 c1 c2 SW SB
        replace HT := hide ((unhide HT).below hb)
        replace HO1 := hide ((unhide HO1).step hb)
        clear hb
        have c1 := (unhide HO1).cell (i := 0) rfl
        have c3 := ((unhide HT).bel.cell (lt_of_cell (unhide HC3))).trans (unhide HC3)
        go_wp2_with fail
        refine (unhide QC w1 ((unhide HRH).below (unhide HT).bel) (unhide HT).stow).mono ?_
        rintro e w2 ⟨rfl, hb⟩
        replace HT := hide ((unhide HT).below hb)
        replace HO1 := hide ((unhide HO1).step hb)
        clear hb QC c1 c3
        have c1 := (unhide HO1).cell (i := 0) rfl
        have c4 := ((unhide HT).bel.cell (lt_of_cell (unhide HC4))).trans (unhide HC4)
        by_cases hc : cd = 0
        · have d1 : (cd == 0) = true := by simp [hc]
          have E := hide (unhide EN0 (unhide hcut) hc)
          have QW := hide (ownCopyStow_any ao W.length cap W w2 (unhide HT).stow (by omega))
          clear hc EN0 EN1
          go_wp2_with fail
          refine (unhide QW).mono ?_
          rintro e w3 ⟨rfl, ho, hb⟩
          have HT3 := hide ((unhide HT).setBest (unhide HPP) hb ho (by omega))
          have c0 := ((unhide HT).o0.step hb).cell (i := 0) rfl
          have c2 := ((unhide HT).o2.step hb).cell (i := 0) rfl
          have f0 := ((unhide HT).o0.step hb).frozen 0
          have f2 := ((unhide HT).o2.step hb).frozen 0
          have HO3 := hide ((((unhide HO1).step hb).other (a := ⟨p2, 0, none⟩) (show p1 ≠ p2 by omega) (.slice (some ⟨w2.heap.size, 0, none⟩) W.length W.length)).other (a := ⟨p0, 0, none⟩) (show p1 ≠ p0 by omega) (.bool true))
          have c0' := cell_setOther w3 (p := ⟨p2, 0, none⟩) (q := ⟨p0, 0, none⟩) (show p2 ≠ p0 by omega) (.slice (some ⟨w2.heap.size, 0, none⟩) W.length W.length) c0
          have f0' := frozen_set w3 ⟨p2, 0, none⟩ ⟨p0, 0, none⟩ (.slice (some ⟨w2.heap.size, 0, none⟩) W.length W.length) f0
          have hne : ¬ p2 = p0 := by omega
          have hne' : ¬ p0 = p2 := by omega
          clear hb ho QW HO1 HT c1 c4
          go_wp2
          refine bodyPost_ret (v := .tuple #[]) (by simp [results, Try.results77, go_sem]) rfl ⟨rfl, tryAns_mk (unhide E).symm (unhide HT3) (unhide HO3)⟩
        · have d1 : (cd == 0) = false := by simp [hc]
          have E := hide (unhide EN1 (unhide hcut) hc)
          clear hc EN0 EN1
          go_wp2
          refine bodyPost_ret (v := .tuple #[]) (by simp [results, Try.results77, go_sem]) rfl ⟨rfl, tryAns_mk (unhide E).symm (unhide HT) (unhide HO1)⟩
    | false =>
      have hcut : Hid (¬ (false = true ∧ over A ≤ over W)) := fun h => by cases h.1
      go_enter Try.func77, Try.ntmps77
      go_wp2
      go_quiet (fail)
      have hb : Below w.heap.size w (w.drewN nq) := ⟨rfl, rfl, rfl, Nat.le_refl _, fun _ _ => rfl⟩
      clear c0 c1 c2
      replace HT := hide ((unhide HT).below hb)
      replace HO1 := hide ((unhide HO1).step hb)
      clear hb
      generalize w.drewN nq = w1 at *
      have c1 := (unhide HO1).cell (i := 0) rfl
      have c3 := ((unhide HT).bel.cell (lt_of_cell (unhide HC3))).trans (unhide HC3)
      go_wp2_with fail
      refine (unhide QC w1 ((unhide HRH).below (unhide HT).bel) (unhide HT).stow).mono ?_
      rintro e w2 ⟨rfl, hb⟩
      replace HT := hide ((unhide HT).below hb)
      replace HO1 := hide ((unhide HO1).step hb)
      clear hb QC c1 c3
      have c1 := (unhide HO1).cell (i := 0) rfl
      have c4 := ((unhide HT).bel.cell (lt_of_cell (unhide HC4))).trans (unhide HC4)
      by_cases hc : cd = 0
      · have d1 : (cd == 0) = true := by simp [hc]
        have E := hide (unhide EN0 (unhide hcut) hc)
        have QW := hide (ownCopyStow_any ao W.length cap W w2 (unhide HT).stow (by omega))
        clear hc EN0 EN1
        go_wp2_with fail
        refine (unhide QW).mono ?_
        rintro e w3 ⟨rfl, ho, hb⟩
        have HT3 := hide ((unhide HT).setBest (unhide HPP) hb ho (by omega))
        have c0 := ((unhide HT).o0.step hb).cell (i := 0) rfl
        have c2 := ((unhide HT).o2.step hb).cell (i := 0) rfl
        have f0 := ((unhide HT).o0.step hb).frozen 0
        have f2 := ((unhide HT).o2.step hb).frozen 0
        have HO3 := hide ((((unhide HO1).step hb).other (a := ⟨p2, 0, none⟩) (show p1 ≠ p2 by omega) (.slice (some ⟨w2.heap.size, 0, none⟩) W.length W.length)).other (a := ⟨p0, 0, none⟩) (show p1 ≠ p0 by omega) (.bool true))
        have c0' := cell_setOther w3 (p := ⟨p2, 0, none⟩) (q := ⟨p0, 0, none⟩) (show p2 ≠ p0 by omega) (.slice (some ⟨w2.heap.size, 0, none⟩) W.length W.length) c0
        have f0' := frozen_set w3 ⟨p2, 0, none⟩ ⟨p0, 0, none⟩ (.slice (some ⟨w2.heap.size, 0, none⟩) W.length W.length) f0
        have hne : ¬ p2 = p0 := by omega
        have hne' : ¬ p0 = p2 := by omega
        clear hb ho QW HO1 HT c1 c4
        go_wp2
        refine bodyPost_ret (v := .tuple #[]) (by simp [results, Try.results77, go_sem]) rfl ⟨rfl, tryAns_mk (unhide E).symm (unhide HT3) (unhide HO3)⟩
      · have d1 : (cd == 0) = false := by simp [hc]
        have E := hide (unhide EN1 (unhide hcut) hc)
        clear hc EN0 EN1
        go_wp2
        refine bodyPost_ret (v := .tuple #[]) (by simp [results, Try.results77, go_sem]) rfl ⟨rfl, tryAns_mk (unhide E).symm (unhide HT) (unhide HO1)⟩
  | cons b0 bs ih =>
    intro W A hs ao cap bo bc w hlen hall hA5 hT hO1
    have hlen' : W.length + (bs.length + 1) = BX.length := by simpa using hlen
    have hlt : W.length < BX.length := by omega
    have hw5 : W.length < 5 := by omega
    have HT := hide hT
    have HO1 := hide hO1
    have HALL := hide hall
    have HB0 : Hid (BX.getD W.length default = b0) := hall 0 (by simp)
    have IHH := hide ih
    have HLEN := hide hlen'
    have HXC := hide (unhide HRX)
    have HPC := hide (unhide HRP)
    obtain ⟨_, _, eX, hxl, hxm, hxc⟩ := unhide HXC
    obtain ⟨_, _, eP, hpl, hpm, hpc⟩ := unhide HPC
    simp only [Value.slice.injEq, true_and] at eX eP
    obtain ⟨rfl, rfl⟩ := eX
    obtain ⟨rfl, rfl⟩ := eP
    unfold maxLen at hxm hpm
    replace HXC := hide hxc
    replace HPC := hide hpc
    have ELN := hide (tryT_len H S b0 bs W (A, hs) (by omega) hA5)
    have QC := hide fun V h1 h2 => implStowCode_any (.slice ho H.length hcap) (.slice ao W.length cap) H W V h1 h2
    have EC0 : Hid (¬ (hs = true ∧ over A ≤ over W) → (stowC H W).1 = 0 ∨ (stowC H W).1 = 4 → tryF H S (b0 :: bs) W (A, hs) = tryT H S b0 bs W (A, hs) S.length) := tryF_cons0 H S b0 bs W A hs
    have EC1 : Hid (¬ (hs = true ∧ over A ≤ over W) → ¬ ((stowC H W).1 = 0 ∨ (stowC H W).1 = 4) → tryF H S (b0 :: bs) W (A, hs) = (A, hs)) := tryF_cons1 H S b0 bs W A hs
    have dl : ((W.length : Int) == (BX.length : Int)) = false := by simp; omega
    have hlti : (W.length : Int) < BX.length := by omega
    clear hT hO1 hlen hlen' hall ih hxc hpc
    generalize stowC H W = C at *
    obtain ⟨cd, ck⟩ := C
    dsimp only at QC EC0 EC1
    have c0 := (unhide HT).o0.cell (i := 0) rfl
    have c1 := (unhide HO1).cell (i := 0) rfl
    have c2 := (unhide HT).o2.cell (i := 0) rfl
    cases hs with
    | true =>
      have ECUT : Hid (over A ≤ over W → tryF H S (b0 :: bs) W (A, true) = (A, true)) := tryF_cut H S _ W A
      have hcut0 : Hid (¬ over A ≤ over W → ¬ (true = true ∧ over A ≤ over W)) := fun h h' => h h'.2
      have SW := hide fun X : Gr w => overstows_any (.slice ao W.length cap) W X.val (((unhide HT).below X.ok).stow) (by omega)
      have SB := hide fun X : Gr w => overstows_any (.slice bo A.length bc) A X.val (((unhide HT).below X.ok).bst) (by omega)
      have r0 := fun X : Gr w => gr_cell c0 X
      have r1 := fun X : Gr w => gr_cell c1 X
      have r2 := fun X : Gr w => gr_cell c2 X
      have gsome := gr_some w
      by_cases hov : over A ≤ over W
      · have E := hide (unhide ECUT hov)
        have hovi : (over A : Int) ≤ over W := by omega
        have hdec : decide ((over A : Int) ≤ over W) = true := by simp only [decide_eq_true_eq]; exact hovi
        clear ECUT hcut0 hov QC IHH
        generalize over A = oa at *
        generalize over W = ow at *
        go_enter Try.func77, Try.ntmps77
        go_wp2
        refine wp_region_grown (by kernel_rfl) (by kernel_rfl) ?_
        repeat (go_big_quiet_step (fail))
        go_big_quiet_want
        go_big_quiet_op
        go_big_quiet_call (exact calls_grown (unhide SW _))
        repeat (go_big_quiet_step (fail))
        go_big_quiet_want
        go_big_quiet_op
        go_big_quiet_call (exact calls_grown (unhide SB _))
        repeat (go_big_quiet_step (fail))
        refine wpQuiet_nil ?_
        intro w1 hw1
        obtain ⟨zq, hz⟩ := hw1
        have hb : Below w.heap.size w w1 := hz ▸ zq.ok
        clear hz gsome r0 r1 r2 c0 c1 c2 SW SB
        replace HT := hide ((unhide HT).below hb)
        replace HO1 := hide ((unhide HO1).step hb)
        go_wp2
        refine bodyPost_ret (v := .tuple #[]) (by simp [results, Try.results77, go_sem]) rfl ⟨rfl, tryAns_mk (unhide E).symm (unhide HT) (unhide HO1)⟩
      · have hcut := hide (unhide hcut0 hov)
        have hovi : ¬ (over A : Int) ≤ over W := by omega
        have hdec : decide ((over A : Int) ≤ over W) = false := by simp only [decide_eq_false_iff_not]; exact hovi
        clear ECUT hcut0 hovi hdec
        generalize hoa : over A = oa at SB hov
        generalize how : over W = ow at SW hov
        clear hoa how
        go_enter Try.func77, Try.ntmps77
        go_wp2
        refine wp_region_grown (by kernel_rfl) (by kernel_rfl) ?_
        repeat (go_big_quiet_step (fail))
        go_big_quiet_want
        go_big_quiet_op
        go_big_quiet_call (exact calls_grown (unhide SW _))
        repeat (go_big_quiet_step (fail))
        go_big_quiet_want
        go_big_quiet_op
        go_big_quiet_call (exact calls_grown (unhide SB _))
        repeat (go_big_quiet_step (fail))
        refine wpQuiet_nil ?_
        intro w1 hw1
        obtain ⟨zq, hz⟩ := hw1
        have hb : Below w.heap.size w w1 := hz ▸ zq.ok
        clear hz gsome r0 r1 r2 c0 c1 c2 SW SB
        replace HT := hide ((unhide HT).below hb)
        replace HO1 := hide ((unhide HO1).step hb)
        clear hb
        have c1 := (unhide HO1).cell (i := 0) rfl
        have c3 := ((unhide HT).bel.cell (lt_of_cell (unhide HC3))).trans (unhide HC3)
        go_wp2_with fail
        refine (unhide QC w1 ((unhide HRH).below (unhide HT).bel) (unhide HT).stow).mono ?_
        rintro e w2 ⟨rfl, hb⟩
        replace HT := hide ((unhide HT).below hb)
        replace HO1 := hide ((unhide HO1).step hb)
        clear hb QC c1 c3
        have c1 := (unhide HO1).cell (i := 0) rfl
        have c4 := ((unhide HT).bel.cell (lt_of_cell (unhide HC4))).trans (unhide HC4)
        have QM := hide fun V => mayBeMended_any cd V
        have c5 := (unhide HT).o5.cell (i := 0) rfl
        by_cases hc : cd = 0 ∨ cd = 4
        case neg =>
          have d1 : decide (cd = 0 ∨ cd = 4) = false := by simp only [decide_eq_false_iff_not]; exact hc
          rw [d1] at QM
          have E := hide (unhide EC1 (unhide hcut) hc)
          clear hc EC0 EC1 IHH d1
          go_wp2_with fail
          refine (unhide QM _).mono ?_
          rintro e w3 ⟨rfl, rfl⟩
          go_wp2
          refine bodyPost_ret (v := .tuple #[]) (by simp [results, Try.results77, go_sem]) rfl ⟨rfl, tryAns_mk (unhide E).symm (unhide HT) (unhide HO1)⟩
        have d1 : decide (cd = 0 ∨ cd = 4) = true := by simp only [decide_eq_true_eq]; exact hc
        rw [d1] at QM
        have EG := hide (unhide EC0 (unhide hcut) hc)
        clear hc EC0 EC1 d1 hcut
        go_wp2_with fail
        refine (unhide QM _).mono ?_
        rintro e w3 ⟨rfl, rfl⟩
        clear QM
        go_wp2
        clear c1 c4 c5
        go_loopg [46] S.length (fun g iv wr => ∃ (i : Nat) (A2 : List StowT) (hs2 : Bool) (ao2 : Option Addr) (cap2 : Nat) (bo2 : Option Addr) (bc2 : Nat), i ≤ S.length ∧ g = S.length - i ∧ iv = .int .i64 i ∧ Hid ((A2, hs2) = tryT H S b0 bs W (A, true) i) ∧ Hid (TrS U M p0 p2 p5 p6 (.func (.func 77) #[] #[.pointer (some ⟨p0, 0, none⟩), .pointer (some ⟨p1, 0, none⟩), .pointer (some ⟨p2, 0, none⟩), .pointer (some ⟨p3, 0, none⟩), .pointer (some ⟨p4, 0, none⟩), .pointer (some ⟨p5, 0, none⟩), .pointer (some ⟨p6, 0, none⟩)]) (.slice po S.length pcap) wr W A2 hs2 ao2 cap2 bo2 bc2) ∧ Hid (OwnV wr p1 [.slice ao2 W.length cap2]))
        case atStart => exact ⟨0, A, true, ao, cap, bo, bc, Nat.zero_le _, rfl, rfl, rfl, unhide HT, unhide HO1⟩
        case round =>
          clear HT HO1
          obtain ⟨i, A2, hs2, ao2, cap2, bo2, bc2, hi, rfl, rfl, EA, HT, HO1⟩ := hrel
          by_cases hin : i < S.length
          · have hii : (i : Int) < S.length := by omega
            have ET1 : Hid (hasB W (S.getD i default) = true → tryT H S b0 bs W (A, true) (i + 1) = tryT H S b0 bs W (A, true) i) := fun h => by rw [tryT, if_pos h]
            have ET2 : Hid (hasB W (S.getD i default) = false → tryT H S b0 bs W (A, true) (i + 1) = tryF H S bs (W ++ [mkS b0 (S.getD i default)]) (tryT H S b0 bs W (A, true) i)) := fun h => by rw [tryT, if_neg (by rw [h]; decide)]
            have hA5' : A2.length ≤ 5 := by have := unhide ELN i; rw [← unhide EA] at this; exact this
            rw [← unhide EA] at ET1 ET2
            obtain ⟨sb, sO, sx, sy, sz, rfl, hc0, hc1, hc2, EX⟩ := rec3At (unhide HPC) hin
            have s0 := ((unhide HT).bel.cell (lt_of_cell hc0)).trans hc0
            have s1 := ((unhide HT).bel.cell (lt_of_cell hc1)).trans hc1
            have s2 := ((unhide HT).bel.cell (lt_of_cell hc2)).trans hc2
            rw [unhide EX] at ET1 ET2
            have QT := hide fun V (h : RStow V (.slice ao2 W.length cap2) W) => isTaken_any _ W sx sy sz V h
            unfold v3 at QT
            clear hc0 hc1 hc2 EX
            have hA1 := Below.alloc1 wr (.cells #[.int .i64 sx, .int .i64 sy, .int .i64 sz] 29)
            have HX := hide (ownV_alloc wr #[.int .i64 sx, .int .i64 sy, .int .i64 sz] 29)
            have HN0 : Hid (∀ g, ao2 = some ⟨g, 0, none⟩ → M ≤ g ∧ g < wr.heap.size) := fun g e => by
              rcases (unhide HT).row.parts (by decide) with ⟨e2, _⟩ | ⟨g2, e2, h1, h2, _⟩
              · rw [e] at e2; cases e2
              · rw [e] at e2; simp only [Option.some.injEq, Addr.mk.injEq, and_true] at e2; omega
            have hmsz := (unhide HT).msz
            replace HT := hide ((unhide HT).below hA1)
            replace HO1 := hide ((unhide HO1).step hA1)
            clear hA1
            obtain ⟨gs, egs⟩ : ∃ g, g = wr.heap.size := ⟨_, rfl⟩
            rw [← egs] at HX HN0 hmsz
            have HNE : Hid (¬ ao2 = some ⟨gs, 0, none⟩) := fun e => by have := unhide HN0 gs e; omega
            have HN1 : Hid (¬ ao2 = some ⟨p1, 0, none⟩) := fun e => by have := unhide HN0 p1 e; omega
            have c1 := (unhide HO1).cell (i := 0) rfl
            have x0 := (unhide HX).cell (i := 0) rfl
            have x1 := (unhide HX).cell (i := 1) rfl
            have x2 := (unhide HX).cell (i := 2) rfl
            clear HN0
            generalize hasB W (sx, sy, sz) = tk at *
            go_wp2_with fail
            rw [← egs]
            clear egs
            refine (unhide QT _ (unhide HT).stow).mono ?_
            rintro e V ⟨rfl, hb⟩
            replace HT := hide ((unhide HT).below hb)
            replace HO1 := hide ((unhide HO1).step hb)
            replace HX := hide ((unhide HX).step hb)
            clear hb QT c1 x0 x1 x2 s0 s1 s2
            cases tk with
            | true =>
              have ET := hide (unhide ET1 rfl)
              clear ET1 ET2 EA
              go_wp2
              go_roundg (S.length - (i + 1))
              case measure => omega
              case rel => exact ⟨i + 1, A2, hs2, ao2, cap2, bo2, bc2, by omega, rfl, by go_num, (unhide ET).symm, unhide HT, unhide HO1⟩
            | false =>
              have ET := hide (unhide ET2 rfl)
              clear ET1 ET2 EA
              obtain ⟨bb, bO', n, wt, cl, co, fr, to, rfl, hc0, hc1, hc2, hc3, hc4, hc5, EX⟩ := recBoxAt (unhide HXC) hlt
              have EMK : Hid (mkS b0 (sx, sy, sz) = (n, wt, cl, co, fr, to, sx, sy, sz)) := by show _ = _; rw [← unhide HB0, unhide EX]; rfl
              rw [unhide EMK] at ET
              have HBC0 := hide hc0
              have HBC1 := hide hc1
              have HBC2 := hide hc2
              have HBC3 := hide hc3
              have HBC4 := hide hc4
              have HBC5 := hide hc5
              have hbbl := lt_of_cell hc0
              have hp4l := lt_of_cell (unhide HC4)
              dsimp only at hbbl hp4l
              have c1 := (unhide HO1).cell (i := 0) rfl
              have c4 := ((unhide HT).bel.cell (lt_of_cell (unhide HC4))).trans (unhide HC4)
              have b0c := ((unhide HT).bel.cell (lt_of_cell hc0)).trans hc0
              have b1c := ((unhide HT).bel.cell (lt_of_cell hc1)).trans hc1
              have b2c := ((unhide HT).bel.cell (lt_of_cell hc2)).trans hc2
              have b3c := ((unhide HT).bel.cell (lt_of_cell hc3)).trans hc3
              have b4c := ((unhide HT).bel.cell (lt_of_cell hc4)).trans hc4
              have b5c := ((unhide HT).bel.cell (lt_of_cell hc5)).trans hc5
              have x0 := (unhide HX).cell (i := 0) rfl
              have x1 := (unhide HX).cell (i := 1) rfl
              have x2 := (unhide HX).cell (i := 2) rfl
              have hp1l := (unhide HO1).lt
              have hgsl := (unhide HX).lt
              clear hc0 hc1 hc2 hc3 hc4 hc5 EX EMK
              go_wp2
              refine wp_region_held_drew (S := fun z => z.cell? ⟨p4, 0, none⟩ = some (.slice (some ⟨bb, bO', none⟩) BX.length xcap) ∧ z.cell? ⟨bb, bO' + W.length * 6, none⟩ = some (.string n) ∧ z.cell? ⟨bb, bO' + W.length * 6 + 1, none⟩ = some (.int .i64 wt) ∧ z.cell? ⟨bb, bO' + W.length * 6 + 2, none⟩ = some (.int .i64 cl) ∧ z.cell? ⟨bb, bO' + W.length * 6 + 3, none⟩ = some (.bool co) ∧ z.cell? ⟨bb, bO' + W.length * 6 + 4, none⟩ = some (.int .i64 fr) ∧ z.cell? ⟨bb, bO' + W.length * 6 + 5, none⟩ = some (.int .i64 to) ∧ z.cell? ⟨gs, 0, none⟩ = some (.int .i64 sx) ∧ z.cell? ⟨gs, 1, none⟩ = some (.int .i64 sy) ∧ z.cell? ⟨gs, 2, none⟩ = some (.int .i64 sz)) (by kernel_rfl) ⟨c4, b0c, b1c, b2c, b3c, b4c, b5c, x0, x1, x2⟩ (fun hHeld => ?_)
              refine wpAnyH_take (i := 1) (v := ?_) rfl (by kernel_rfl) (by kernel_rfl) (by kernel_rfl) (fun _ _ _ h => h) (Or.inl ⟨by rfl, ?_⟩) (by assumption) ?_
              rotate_left
              · intro wy hSw
                obtain ⟨e4, eb0, eb1, eb2, eb3, eb4, eb5, es0, es1, es2⟩ := hSw
                go_simp
                try with_reducible rfl
              simp only [Act.put, List.setIfInBounds_toArray, List.set_cons_zero, List.set_cons_succ]
              refine wpAnyH_take (i := 6) (v := ?_) rfl (by kernel_rfl) (by kernel_rfl) (by kernel_rfl) (fun _ _ _ h => h) (Or.inl ⟨by rfl, ?_⟩) (by assumption) ?_
              rotate_left
              · intro wy hSw
                obtain ⟨e4, eb0, eb1, eb2, eb3, eb4, eb5, es0, es1, es2⟩ := hSw
                go_simp
                try with_reducible rfl
              simp only [Act.put, List.setIfInBounds_toArray, List.set_cons_zero, List.set_cons_succ]
              refine wpAnyH_ready (rs := [0, 2]) (by kernel_rfl) (by simp) ?_
              refine AllReadyH.cons rfl (fun K hK => ?_) ?_
              · go_simp
                refine hK.out _ _ ?_ (fun hHeld => ?_)
                · go_keep
                try simp only [Act.put, List.setIfInBounds_toArray, List.set_cons_zero, List.set_cons_succ]
                refine wpAnyH_ready (rs := [2]) (by kernel_rfl) (by simp) ?_
                refine AllReadyH.cons rfl (fun K hK => ?_) ?_
                · go_simp
                  refine hK.out _ _ ?_ (fun hHeld => ?_)
                  · go_keep
                  try simp only [Act.put, List.setIfInBounds_toArray, List.set_cons_zero, List.set_cons_succ]
                  refine wpAnyH_take (i := 3) (v := ?_) rfl (by kernel_rfl) (by kernel_rfl) (by kernel_rfl) (fun _ _ _ h => h) (Or.inl ⟨by rfl, ?_⟩) (by assumption) ?_
                  rotate_left
                  · intro wy hSw
                    obtain ⟨e4, eb0, eb1, eb2, eb3, eb4, eb5, es0, es1, es2⟩ := hSw
                    go_simp
                    try with_reducible rfl
                  simp only [Act.put, List.setIfInBounds_toArray, List.set_cons_zero, List.set_cons_succ]
                  refine wpAnyH_take (i := 4) (v := ?_) rfl (by kernel_rfl) (by kernel_rfl) (by kernel_rfl) (fun _ _ _ h => h) (Or.inl ⟨by rfl, ?_⟩) (by assumption) ?_
                  rotate_left
                  · intro wy hSw
                    obtain ⟨e4, eb0, eb1, eb2, eb3, eb4, eb5, es0, es1, es2⟩ := hSw
                    go_simp
                    try with_reducible rfl
                  simp only [Act.put, List.setIfInBounds_toArray, List.set_cons_zero, List.set_cons_succ]
                  refine wpAnyH_take (i := 5) (v := ?_) rfl (by kernel_rfl) (by kernel_rfl) (by kernel_rfl) (fun _ _ _ h => h) (Or.inl ⟨by rfl, ?_⟩) (by assumption) ?_
                  rotate_left
                  · intro wy hSw
                    obtain ⟨e4, eb0, eb1, eb2, eb3, eb4, eb5, es0, es1, es2⟩ := hSw
                    go_simp
                    try with_reducible rfl
                  simp only [Act.put, List.setIfInBounds_toArray, List.set_cons_zero, List.set_cons_succ]
                  refine wpAnyH_take (i := 7) (v := ?_) rfl (by kernel_rfl) (by kernel_rfl) (by kernel_rfl) (fun _ _ _ h => h) (Or.inl ⟨by rfl, ?_⟩) (by assumption) ?_
                  rotate_left
                  · intro wy hSw
                    obtain ⟨e4, eb0, eb1, eb2, eb3, eb4, eb5, es0, es1, es2⟩ := hSw
                    go_simp
                    try with_reducible rfl
                  simp only [Act.put, List.setIfInBounds_toArray, List.set_cons_zero, List.set_cons_succ]
                  refine wpAnyH_ready (rs := [8]) (by kernel_rfl) (by simp) ?_
                  refine AllReadyH.cons rfl (fun K hK => ?_) ?_
                  · go_simp
                    refine hK.out _ _ ?_ (fun hHeld => ?_)
                    · go_keep
                    try simp only [Act.put, List.setIfInBounds_toArray, List.set_cons_zero, List.set_cons_succ]
                    refine wpAnyH_ready (rs := [9]) (by kernel_rfl) (by simp) ?_
                    refine AllReadyH.cons rfl (fun K hK => ?_) ?_
                    · first | (refine step_appRow tyStow _ (by rfl) (.tmp 53) (.tmp 61) (by rfl) M ao2 W.length cap2 W (by rfl) (((unhide HT).row).below (Below.alloc1 V (.cells #[.string n, .int .i64 wt, .int .i64 cl, .bool co, .int .i64 fr, .int .i64 to, .int .i64 sx, .int .i64 sy, .int .i64 sz] 44))) (Nat.le_trans (unhide HT).msz (by simp)) (by omega) V.heap.size (n, wt, cl, co, fr, to, sx, sy, sz) 1 (by rfl) ((ownV_alloc V #[.string n, .int .i64 wt, .int .i64 cl, .bool co, .int .i64 fr, .int .i64 to, .int .i64 sx, .int .i64 sy, .int .i64 sz] 44)) ?_; intro g3 cap3 wb hL hK0 hBg hat; have hK : Kept (fun k => ao2 = some ⟨k, 0, none⟩) (V.alloc (.cells #[.string n, .int .i64 wt, .int .i64 cl, .bool co, .int .i64 fr, .int .i64 to, .int .i64 sx, .int .i64 sy, .int .i64 sz] 44)) wb := ⟨hK0.os, hK0.tape, hK0.output, hK0.size, hK0.block⟩; have HTb := hide ((unhide HT).app (unhide HPP) hL hK hat); have HO1b := hide ((OwnV.alloc (unhide HO1) (.cells #[.string n, .int .i64 wt, .int .i64 cl, .bool co, .int .i64 fr, .int .i64 to, .int .i64 sx, .int .i64 sy, .int .i64 sz] 44)).kept hK (unhide HN1)); have HXb := hide ((OwnV.alloc (unhide HX) (.cells #[.string n, .int .i64 wt, .int .i64 cl, .bool co, .int .i64 fr, .int .i64 to, .int .i64 sx, .int .i64 sy, .int .i64 sz] 44)).kept hK (unhide HNE)); have q1 := (unhide HO1b).cell (i := 0) rfl; have q1f := (unhide HO1b).frozen 0; have q4 := ((unhide HTb).bel.cell (lt_of_cell (unhide HC4))).trans (unhide HC4); have qb0 := ((unhide HTb).bel.cell (lt_of_cell (unhide HBC0))).trans (unhide HBC0); have qb1 := ((unhide HTb).bel.cell (lt_of_cell (unhide HBC1))).trans (unhide HBC1); have qb2 := ((unhide HTb).bel.cell (lt_of_cell (unhide HBC2))).trans (unhide HBC2); have qb3 := ((unhide HTb).bel.cell (lt_of_cell (unhide HBC3))).trans (unhide HBC3); have qb4 := ((unhide HTb).bel.cell (lt_of_cell (unhide HBC4))).trans (unhide HBC4); have qb5 := ((unhide HTb).bel.cell (lt_of_cell (unhide HBC5))).trans (unhide HBC5); have qs0 := (unhide HXb).cell (i := 0) rfl; have qs1 := (unhide HXb).cell (i := 1) rfl; have qs2 := (unhide HXb).cell (i := 2) rfl; have z4 := cell_setOther wb (p := ⟨p1, 0, none⟩) (q := ⟨p4, 0, none⟩) (show p1 ≠ p4 by omega) (.slice (some ⟨g3, 0, none⟩) (W.length + 1) cap3) q4; have zb0 := cell_setOther wb (p := ⟨p1, 0, none⟩) (q := ⟨bb, bO' + W.length * 6, none⟩) (show p1 ≠ bb by omega) (.slice (some ⟨g3, 0, none⟩) (W.length + 1) cap3) qb0; have zb1 := cell_setOther wb (p := ⟨p1, 0, none⟩) (q := ⟨bb, bO' + W.length * 6 + 1, none⟩) (show p1 ≠ bb by omega) (.slice (some ⟨g3, 0, none⟩) (W.length + 1) cap3) qb1; have zb2 := cell_setOther wb (p := ⟨p1, 0, none⟩) (q := ⟨bb, bO' + W.length * 6 + 2, none⟩) (show p1 ≠ bb by omega) (.slice (some ⟨g3, 0, none⟩) (W.length + 1) cap3) qb2; have zb3 := cell_setOther wb (p := ⟨p1, 0, none⟩) (q := ⟨bb, bO' + W.length * 6 + 3, none⟩) (show p1 ≠ bb by omega) (.slice (some ⟨g3, 0, none⟩) (W.length + 1) cap3) qb3; have zb4 := cell_setOther wb (p := ⟨p1, 0, none⟩) (q := ⟨bb, bO' + W.length * 6 + 4, none⟩) (show p1 ≠ bb by omega) (.slice (some ⟨g3, 0, none⟩) (W.length + 1) cap3) qb4; have zb5 := cell_setOther wb (p := ⟨p1, 0, none⟩) (q := ⟨bb, bO' + W.length * 6 + 5, none⟩) (show p1 ≠ bb by omega) (.slice (some ⟨g3, 0, none⟩) (W.length + 1) cap3) qb5; have zs0 := cell_setOther wb (p := ⟨p1, 0, none⟩) (q := ⟨gs, 0, none⟩) (show p1 ≠ gs by omega) (.slice (some ⟨g3, 0, none⟩) (W.length + 1) cap3) qs0; have zs1 := cell_setOther wb (p := ⟨p1, 0, none⟩) (q := ⟨gs, 1, none⟩) (show p1 ≠ gs by omega) (.slice (some ⟨g3, 0, none⟩) (W.length + 1) cap3) qs1; have zs2 := cell_setOther wb (p := ⟨p1, 0, none⟩) (q := ⟨gs, 2, none⟩) (show p1 ≠ gs by omega) (.slice (some ⟨g3, 0, none⟩) (W.length + 1) cap3) qs2; clear hL hK0 hK hat hBg) | (refine step_appRow tyStow _ (by rfl) (.tmp 53) (.tmp 61) (by rfl) M ao2 W.length cap2 W (by rfl) (RowB.below (((unhide HT).row).below (Below.alloc1 V (.cells #[.string n, .int .i64 wt, .int .i64 cl, .bool co, .int .i64 fr, .int .i64 to, .int .i64 sx, .int .i64 sy, .int .i64 sz] 44))) (Below.refl _ _).drew) (Nat.le_trans (unhide HT).msz (by simp)) (by omega) V.heap.size (n, wt, cl, co, fr, to, sx, sy, sz) 1 (by rfl) ((ownV_alloc V #[.string n, .int .i64 wt, .int .i64 cl, .bool co, .int .i64 fr, .int .i64 to, .int .i64 sx, .int .i64 sy, .int .i64 sz] 44).drew) ?_; intro g3 cap3 wb hL hK0 hBg hat; have hK : Kept (fun k => ao2 = some ⟨k, 0, none⟩) (V.alloc (.cells #[.string n, .int .i64 wt, .int .i64 cl, .bool co, .int .i64 fr, .int .i64 to, .int .i64 sx, .int .i64 sy, .int .i64 sz] 44)) wb := ⟨hK0.os, hK0.tape, hK0.output, hK0.size, hK0.block⟩; have HTb := hide ((unhide HT).app (unhide HPP) hL hK hat); have HO1b := hide ((OwnV.alloc (unhide HO1) (.cells #[.string n, .int .i64 wt, .int .i64 cl, .bool co, .int .i64 fr, .int .i64 to, .int .i64 sx, .int .i64 sy, .int .i64 sz] 44)).kept hK (unhide HN1)); have HXb := hide ((OwnV.alloc (unhide HX) (.cells #[.string n, .int .i64 wt, .int .i64 cl, .bool co, .int .i64 fr, .int .i64 to, .int .i64 sx, .int .i64 sy, .int .i64 sz] 44)).kept hK (unhide HNE)); have q1 := (unhide HO1b).cell (i := 0) rfl; have q1f := (unhide HO1b).frozen 0; have q4 := ((unhide HTb).bel.cell (lt_of_cell (unhide HC4))).trans (unhide HC4); have qb0 := ((unhide HTb).bel.cell (lt_of_cell (unhide HBC0))).trans (unhide HBC0); have qb1 := ((unhide HTb).bel.cell (lt_of_cell (unhide HBC1))).trans (unhide HBC1); have qb2 := ((unhide HTb).bel.cell (lt_of_cell (unhide HBC2))).trans (unhide HBC2); have qb3 := ((unhide HTb).bel.cell (lt_of_cell (unhide HBC3))).trans (unhide HBC3); have qb4 := ((unhide HTb).bel.cell (lt_of_cell (unhide HBC4))).trans (unhide HBC4); have qb5 := ((unhide HTb).bel.cell (lt_of_cell (unhide HBC5))).trans (unhide HBC5); have qs0 := (unhide HXb).cell (i := 0) rfl; have qs1 := (unhide HXb).cell (i := 1) rfl; have qs2 := (unhide HXb).cell (i := 2) rfl; have z4 := cell_setOther wb (p := ⟨p1, 0, none⟩) (q := ⟨p4, 0, none⟩) (show p1 ≠ p4 by omega) (.slice (some ⟨g3, 0, none⟩) (W.length + 1) cap3) q4; have zb0 := cell_setOther wb (p := ⟨p1, 0, none⟩) (q := ⟨bb, bO' + W.length * 6, none⟩) (show p1 ≠ bb by omega) (.slice (some ⟨g3, 0, none⟩) (W.length + 1) cap3) qb0; have zb1 := cell_setOther wb (p := ⟨p1, 0, none⟩) (q := ⟨bb, bO' + W.length * 6 + 1, none⟩) (show p1 ≠ bb by omega) (.slice (some ⟨g3, 0, none⟩) (W.length + 1) cap3) qb1; have zb2 := cell_setOther wb (p := ⟨p1, 0, none⟩) (q := ⟨bb, bO' + W.length * 6 + 2, none⟩) (show p1 ≠ bb by omega) (.slice (some ⟨g3, 0, none⟩) (W.length + 1) cap3) qb2; have zb3 := cell_setOther wb (p := ⟨p1, 0, none⟩) (q := ⟨bb, bO' + W.length * 6 + 3, none⟩) (show p1 ≠ bb by omega) (.slice (some ⟨g3, 0, none⟩) (W.length + 1) cap3) qb3; have zb4 := cell_setOther wb (p := ⟨p1, 0, none⟩) (q := ⟨bb, bO' + W.length * 6 + 4, none⟩) (show p1 ≠ bb by omega) (.slice (some ⟨g3, 0, none⟩) (W.length + 1) cap3) qb4; have zb5 := cell_setOther wb (p := ⟨p1, 0, none⟩) (q := ⟨bb, bO' + W.length * 6 + 5, none⟩) (show p1 ≠ bb by omega) (.slice (some ⟨g3, 0, none⟩) (W.length + 1) cap3) qb5; have zs0 := cell_setOther wb (p := ⟨p1, 0, none⟩) (q := ⟨gs, 0, none⟩) (show p1 ≠ gs by omega) (.slice (some ⟨g3, 0, none⟩) (W.length + 1) cap3) qs0; have zs1 := cell_setOther wb (p := ⟨p1, 0, none⟩) (q := ⟨gs, 1, none⟩) (show p1 ≠ gs by omega) (.slice (some ⟨g3, 0, none⟩) (W.length + 1) cap3) qs1; have zs2 := cell_setOther wb (p := ⟨p1, 0, none⟩) (q := ⟨gs, 2, none⟩) (show p1 ≠ gs by omega) (.slice (some ⟨g3, 0, none⟩) (W.length + 1) cap3) qs2; clear hL hK0 hK hat hBg)
                      refine hK.out _ _ ?_ (fun hHeld => ?_)
                      · exact ⟨q4, qb0, qb1, qb2, qb3, qb4, qb5, qs0, qs1, qs2⟩
                      try simp only [Act.put, List.setIfInBounds_toArray, List.set_cons_zero, List.set_cons_succ]
                      refine wpAnyH_ready (rs := [10]) (by kernel_rfl) (by simp) ?_
                      refine AllReadyH.cons rfl (fun K hK => ?_) ?_
                      · go_simp
                        refine hK.out _ _ ?_ (fun hHeld => ?_)
                        · exact ⟨z4, zb0, zb1, zb2, zb3, zb4, zb5, zs0, zs1, zs2⟩
                        try simp only [Act.put, List.setIfInBounds_toArray, List.set_cons_zero, List.set_cons_succ]
                        refine wpAnyH_done (by kernel_rfl) ?_ _
                        have HTc := hide ((unhide HTb).set1 (unhide HPP) (.slice (some ⟨g3, 0, none⟩) (W.length + 1) cap3))
                        have HOc : Hid (OwnV (wb.setCell ⟨p1, 0, none⟩ (.slice (some ⟨g3, 0, none⟩) (W.length + 1) cap3)) p1 [(.slice (some ⟨g3, 0, none⟩) (W.length + 1) cap3)]) := (unhide HO1b).set 0 (.slice (some ⟨g3, 0, none⟩) (W.length + 1) cap3) (by simp)
                        generalize wb.setCell ⟨p1, 0, none⟩ (.slice (some ⟨g3, 0, none⟩) (W.length + 1) cap3) = wc at *
                        clear hHeld q1 q1f q4 qb0 qb1 qb2 qb3 qb4 qb5 qs0 qs1 qs2 z4 zb0 zb1 zb2 zb3 zb4 zb5 zs0 zs1 zs2 HTb HO1b HXb c1 c4 b0c b1c b2c b3c b4c b5c x0 x1 x2 HBC0 HBC1 HBC2 HBC3 HBC4 HBC5 HT HO1 HX
                        have hln : (W ++ [(n, wt, cl, co, fr, to, sx, sy, sz)]).length = W.length + 1 := by simp
                        have QI := unhide IHH (W ++ [(n, wt, cl, co, fr, to, sx, sy, sz)]) A2 hs2 (some ⟨g3, 0, none⟩) cap3 bo2 bc2 wc (by rw [hln]; have := unhide HLEN; omega) (fun j hj => by
                          have h1 := unhide HALL (j + 1) (by simp; omega)
                          rw [hln, show W.length + 1 + j = W.length + (j + 1) by omega, h1]
                          rfl) hA5' (unhide HTc) (by rw [hln]; exact unhide HOc)
                        replace QI := hide QI
                        have c6 := (unhide HTc).o6.cell (i := 0) rfl
                        clear HOc
                        go_wp2_with fail
                        refine (unhide QI).mono ?_
                        rintro e w5 ⟨rfl, hpost⟩
                        obtain ⟨A5, hs5, ao5, cap5, bo5, bc5, EA5, hT5, hO5⟩ := tryAns_out hpost
                        clear hpost
                        rw [hln] at hO5
                        obtain ⟨g5, e5, hc5⟩ : ∃ g, ao5 = some ⟨g, 0, none⟩ ∧ W.length + 1 ≤ cap5 := by
                          rcases hT5.row.parts (by decide) with ⟨_, h0, _⟩ | ⟨g, e, _, _, hc, _⟩
                          · rw [hln] at h0; omega
                          · rw [hln] at hc; exact ⟨g, e, hc⟩
                        subst e5
                        have c1 := hO5.cell (i := 0) rfl
                        have f1 := hO5.frozen 0
                        have HT6 := hide (hT5.front.set1 (unhide HPP) (.slice (some ⟨g5, 0, none⟩) W.length cap5))
                        have HO6 : Hid (OwnV (w5.setCell ⟨p1, 0, none⟩ (.slice (some ⟨g5, 0, none⟩) W.length cap5)) p1 [.slice (some ⟨g5, 0, none⟩) W.length cap5]) := hO5.set 0 (.slice (some ⟨g5, 0, none⟩) W.length cap5) (by simp)
                        have hcc : W.length ≤ cap5 := by omega
                        have hcci : (W.length : Int) ≤ cap5 := by omega
                        clear hT5 hO5 QI HTc c6 hln
                        go_wp2
                        go_roundg (S.length - (i + 1))
                        case measure => omega
                        case rel => exact ⟨i + 1, A5, hs5, some ⟨g5, 0, none⟩, cap5, bo5, bc5, by omega, rfl, by go_num, EA5.trans (unhide ET).symm, unhide HT6, unhide HO6⟩
                      exact AllReadyH.nil
                    exact AllReadyH.nil
                  exact AllReadyH.nil
                exact AllReadyH.nil
              refine AllReadyH.cons rfl (fun K hK => ?_) ?_
              · go_simp
                refine hK.out _ _ ?_ (fun hHeld => ?_)
                · go_keep
                try simp only [Act.put, List.setIfInBounds_toArray, List.set_cons_zero, List.set_cons_succ]
                refine wpAnyH_take (i := 3) (v := ?_) rfl (by kernel_rfl) (by kernel_rfl) (by kernel_rfl) (fun _ _ _ h => h) (Or.inl ⟨by rfl, ?_⟩) (by assumption) ?_
                rotate_left
                · intro wy hSw
                  obtain ⟨e4, eb0, eb1, eb2, eb3, eb4, eb5, es0, es1, es2⟩ := hSw
                  go_simp
                  try with_reducible rfl
                simp only [Act.put, List.setIfInBounds_toArray, List.set_cons_zero, List.set_cons_succ]
                refine wpAnyH_take (i := 4) (v := ?_) rfl (by kernel_rfl) (by kernel_rfl) (by kernel_rfl) (fun _ _ _ h => h) (Or.inl ⟨by rfl, ?_⟩) (by assumption) ?_
                rotate_left
                · intro wy hSw
                  obtain ⟨e4, eb0, eb1, eb2, eb3, eb4, eb5, es0, es1, es2⟩ := hSw
                  go_simp
                  try with_reducible rfl
                simp only [Act.put, List.setIfInBounds_toArray, List.set_cons_zero, List.set_cons_succ]
                refine wpAnyH_take (i := 5) (v := ?_) rfl (by kernel_rfl) (by kernel_rfl) (by kernel_rfl) (fun _ _ _ h => h) (Or.inl ⟨by rfl, ?_⟩) (by assumption) ?_
                rotate_left
                · intro wy hSw
                  obtain ⟨e4, eb0, eb1, eb2, eb3, eb4, eb5, es0, es1, es2⟩ := hSw
                  go_simp
                  try with_reducible rfl
                simp only [Act.put, List.setIfInBounds_toArray, List.set_cons_zero, List.set_cons_succ]
                refine wpAnyH_take (i := 7) (v := ?_) rfl (by kernel_rfl) (by kernel_rfl) (by kernel_rfl) (fun _ _ _ h => h) (Or.inl ⟨by rfl, ?_⟩) (by assumption) ?_
                rotate_left
                · intro wy hSw
                  obtain ⟨e4, eb0, eb1, eb2, eb3, eb4, eb5, es0, es1, es2⟩ := hSw
                  go_simp
                  try with_reducible rfl
                simp only [Act.put, List.setIfInBounds_toArray, List.set_cons_zero, List.set_cons_succ]
                refine wpAnyH_ready (rs := [0, 8]) (by kernel_rfl) (by simp) ?_
                refine AllReadyH.cons rfl (fun K hK => ?_) ?_
                · go_simp
                  refine hK.out _ _ ?_ (fun hHeld => ?_)
                  · go_keep
                  try simp only [Act.put, List.setIfInBounds_toArray, List.set_cons_zero, List.set_cons_succ]
                  refine wpAnyH_ready (rs := [8]) (by kernel_rfl) (by simp) ?_
                  refine AllReadyH.cons rfl (fun K hK => ?_) ?_
                  · go_simp
                    refine hK.out _ _ ?_ (fun hHeld => ?_)
                    · go_keep
                    try simp only [Act.put, List.setIfInBounds_toArray, List.set_cons_zero, List.set_cons_succ]
                    refine wpAnyH_ready (rs := [9]) (by kernel_rfl) (by simp) ?_
                    refine AllReadyH.cons rfl (fun K hK => ?_) ?_
                    · first | (refine step_appRow tyStow _ (by rfl) (.tmp 53) (.tmp 61) (by rfl) M ao2 W.length cap2 W (by rfl) (((unhide HT).row).below (Below.alloc1 V (.cells #[.string n, .int .i64 wt, .int .i64 cl, .bool co, .int .i64 fr, .int .i64 to, .int .i64 sx, .int .i64 sy, .int .i64 sz] 44))) (Nat.le_trans (unhide HT).msz (by simp)) (by omega) V.heap.size (n, wt, cl, co, fr, to, sx, sy, sz) 1 (by rfl) ((ownV_alloc V #[.string n, .int .i64 wt, .int .i64 cl, .bool co, .int .i64 fr, .int .i64 to, .int .i64 sx, .int .i64 sy, .int .i64 sz] 44)) ?_; intro g3 cap3 wb hL hK0 hBg hat; have hK : Kept (fun k => ao2 = some ⟨k, 0, none⟩) (V.alloc (.cells #[.string n, .int .i64 wt, .int .i64 cl, .bool co, .int .i64 fr, .int .i64 to, .int .i64 sx, .int .i64 sy, .int .i64 sz] 44)) wb := ⟨hK0.os, hK0.tape, hK0.output, hK0.size, hK0.block⟩; have HTb := hide ((unhide HT).app (unhide HPP) hL hK hat); have HO1b := hide ((OwnV.alloc (unhide HO1) (.cells #[.string n, .int .i64 wt, .int .i64 cl, .bool co, .int .i64 fr, .int .i64 to, .int .i64 sx, .int .i64 sy, .int .i64 sz] 44)).kept hK (unhide HN1)); have HXb := hide ((OwnV.alloc (unhide HX) (.cells #[.string n, .int .i64 wt, .int .i64 cl, .bool co, .int .i64 fr, .int .i64 to, .int .i64 sx, .int .i64 sy, .int .i64 sz] 44)).kept hK (unhide HNE)); have q1 := (unhide HO1b).cell (i := 0) rfl; have q1f := (unhide HO1b).frozen 0; have q4 := ((unhide HTb).bel.cell (lt_of_cell (unhide HC4))).trans (unhide HC4); have qb0 := ((unhide HTb).bel.cell (lt_of_cell (unhide HBC0))).trans (unhide HBC0); have qb1 := ((unhide HTb).bel.cell (lt_of_cell (unhide HBC1))).trans (unhide HBC1); have qb2 := ((unhide HTb).bel.cell (lt_of_cell (unhide HBC2))).trans (unhide HBC2); have qb3 := ((unhide HTb).bel.cell (lt_of_cell (unhide HBC3))).trans (unhide HBC3); have qb4 := ((unhide HTb).bel.cell (lt_of_cell (unhide HBC4))).trans (unhide HBC4); have qb5 := ((unhide HTb).bel.cell (lt_of_cell (unhide HBC5))).trans (unhide HBC5); have qs0 := (unhide HXb).cell (i := 0) rfl; have qs1 := (unhide HXb).cell (i := 1) rfl; have qs2 := (unhide HXb).cell (i := 2) rfl; have z4 := cell_setOther wb (p := ⟨p1, 0, none⟩) (q := ⟨p4, 0, none⟩) (show p1 ≠ p4 by omega) (.slice (some ⟨g3, 0, none⟩) (W.length + 1) cap3) q4; have zb0 := cell_setOther wb (p := ⟨p1, 0, none⟩) (q := ⟨bb, bO' + W.length * 6, none⟩) (show p1 ≠ bb by omega) (.slice (some ⟨g3, 0, none⟩) (W.length + 1) cap3) qb0; have zb1 := cell_setOther wb (p := ⟨p1, 0, none⟩) (q := ⟨bb, bO' + W.length * 6 + 1, none⟩) (show p1 ≠ bb by omega) (.slice (some ⟨g3, 0, none⟩) (W.length + 1) cap3) qb1; have zb2 := cell_setOther wb (p := ⟨p1, 0, none⟩) (q := ⟨bb, bO' + W.length * 6 + 2, none⟩) (show p1 ≠ bb by omega) (.slice (some ⟨g3, 0, none⟩) (W.length + 1) cap3) qb2; have zb3 := cell_setOther wb (p := ⟨p1, 0, none⟩) (q := ⟨bb, bO' + W.length * 6 + 3, none⟩) (show p1 ≠ bb by omega) (.slice (some ⟨g3, 0, none⟩) (W.length + 1) cap3) qb3; have zb4 := cell_setOther wb (p := ⟨p1, 0, none⟩) (q := ⟨bb, bO' + W.length * 6 + 4, none⟩) (show p1 ≠ bb by omega) (.slice (some ⟨g3, 0, none⟩) (W.length + 1) cap3) qb4; have zb5 := cell_setOther wb (p := ⟨p1, 0, none⟩) (q := ⟨bb, bO' + W.length * 6 + 5, none⟩) (show p1 ≠ bb by omega) (.slice (some ⟨g3, 0, none⟩) (W.length + 1) cap3) qb5; have zs0 := cell_setOther wb (p := ⟨p1, 0, none⟩) (q := ⟨gs, 0, none⟩) (show p1 ≠ gs by omega) (.slice (some ⟨g3, 0, none⟩) (W.length + 1) cap3) qs0; have zs1 := cell_setOther wb (p := ⟨p1, 0, none⟩) (q := ⟨gs, 1, none⟩) (show p1 ≠ gs by omega) (.slice (some ⟨g3, 0, none⟩) (W.length + 1) cap3) qs1; have zs2 := cell_setOther wb (p := ⟨p1, 0, none⟩) (q := ⟨gs, 2, none⟩) (show p1 ≠ gs by omega) (.slice (some ⟨g3, 0, none⟩) (W.length + 1) cap3) qs2; clear hL hK0 hK hat hBg) | (refine step_appRow tyStow _ (by rfl) (.tmp 53) (.tmp 61) (by rfl) M ao2 W.length cap2 W (by rfl) (RowB.below (((unhide HT).row).below (Below.alloc1 V (.cells #[.string n, .int .i64 wt, .int .i64 cl, .bool co, .int .i64 fr, .int .i64 to, .int .i64 sx, .int .i64 sy, .int .i64 sz] 44))) (Below.refl _ _).drew) (Nat.le_trans (unhide HT).msz (by simp)) (by omega) V.heap.size (n, wt, cl, co, fr, to, sx, sy, sz) 1 (by rfl) ((ownV_alloc V #[.string n, .int .i64 wt, .int .i64 cl, .bool co, .int .i64 fr, .int .i64 to, .int .i64 sx, .int .i64 sy, .int .i64 sz] 44).drew) ?_; intro g3 cap3 wb hL hK0 hBg hat; have hK : Kept (fun k => ao2 = some ⟨k, 0, none⟩) (V.alloc (.cells #[.string n, .int .i64 wt, .int .i64 cl, .bool co, .int .i64 fr, .int .i64 to, .int .i64 sx, .int .i64 sy, .int .i64 sz] 44)) wb := ⟨hK0.os, hK0.tape, hK0.output, hK0.size, hK0.block⟩; have HTb := hide ((unhide HT).app (unhide HPP) hL hK hat); have HO1b := hide ((OwnV.alloc (unhide HO1) (.cells #[.string n, .int .i64 wt, .int .i64 cl, .bool co, .int .i64 fr, .int .i64 to, .int .i64 sx, .int .i64 sy, .int .i64 sz] 44)).kept hK (unhide HN1)); have HXb := hide ((OwnV.alloc (unhide HX) (.cells #[.string n, .int .i64 wt, .int .i64 cl, .bool co, .int .i64 fr, .int .i64 to, .int .i64 sx, .int .i64 sy, .int .i64 sz] 44)).kept hK (unhide HNE)); have q1 := (unhide HO1b).cell (i := 0) rfl; have q1f := (unhide HO1b).frozen 0; have q4 := ((unhide HTb).bel.cell (lt_of_cell (unhide HC4))).trans (unhide HC4); have qb0 := ((unhide HTb).bel.cell (lt_of_cell (unhide HBC0))).trans (unhide HBC0); have qb1 := ((unhide HTb).bel.cell (lt_of_cell (unhide HBC1))).trans (unhide HBC1); have qb2 := ((unhide HTb).bel.cell (lt_of_cell (unhide HBC2))).trans (unhide HBC2); have qb3 := ((unhide HTb).bel.cell (lt_of_cell (unhide HBC3))).trans (unhide HBC3); have qb4 := ((unhide HTb).bel.cell (lt_of_cell (unhide HBC4))).trans (unhide HBC4); have qb5 := ((unhide HTb).bel.cell (lt_of_cell (unhide HBC5))).trans (unhide HBC5); have qs0 := (unhide HXb).cell (i := 0) rfl; have qs1 := (unhide HXb).cell (i := 1) rfl; have qs2 := (unhide HXb).cell (i := 2) rfl; have z4 := cell_setOther wb (p := ⟨p1, 0, none⟩) (q := ⟨p4, 0, none⟩) (show p1 ≠ p4 by omega) (.slice (some ⟨g3, 0, none⟩) (W.length + 1) cap3) q4; have zb0 := cell_setOther wb (p := ⟨p1, 0, none⟩) (q := ⟨bb, bO' + W.length * 6, none⟩) (show p1 ≠ bb by omega) (.slice (some ⟨g3, 0, none⟩) (W.length + 1) cap3) qb0; have zb1 := cell_setOther wb (p := ⟨p1, 0, none⟩) (q := ⟨bb, bO' + W.length * 6 + 1, none⟩) (show p1 ≠ bb by omega) (.slice (some ⟨g3, 0, none⟩) (W.length + 1) cap3) qb1; have zb2 := cell_setOther wb (p := ⟨p1, 0, none⟩) (q := ⟨bb, bO' + W.length * 6 + 2, none⟩) (show p1 ≠ bb by omega) (.slice (some ⟨g3, 0, none⟩) (W.length + 1) cap3) qb2; have zb3 := cell_setOther wb (p := ⟨p1, 0, none⟩) (q := ⟨bb, bO' + W.length * 6 + 3, none⟩) (show p1 ≠ bb by omega) (.slice (some ⟨g3, 0, none⟩) (W.length + 1) cap3) qb3; have zb4 := cell_setOther wb (p := ⟨p1, 0, none⟩) (q := ⟨bb, bO' + W.length * 6 + 4, none⟩) (show p1 ≠ bb by omega) (.slice (some ⟨g3, 0, none⟩) (W.length + 1) cap3) qb4; have zb5 := cell_setOther wb (p := ⟨p1, 0, none⟩) (q := ⟨bb, bO' + W.length * 6 + 5, none⟩) (show p1 ≠ bb by omega) (.slice (some ⟨g3, 0, none⟩) (W.length + 1) cap3) qb5; have zs0 := cell_setOther wb (p := ⟨p1, 0, none⟩) (q := ⟨gs, 0, none⟩) (show p1 ≠ gs by omega) (.slice (some ⟨g3, 0, none⟩) (W.length + 1) cap3) qs0; have zs1 := cell_setOther wb (p := ⟨p1, 0, none⟩) (q := ⟨gs, 1, none⟩) (show p1 ≠ gs by omega) (.slice (some ⟨g3, 0, none⟩) (W.length + 1) cap3) qs1; have zs2 := cell_setOther wb (p := ⟨p1, 0, none⟩) (q := ⟨gs, 2, none⟩) (show p1 ≠ gs by omega) (.slice (some ⟨g3, 0, none⟩) (W.length + 1) cap3) qs2; clear hL hK0 hK hat hBg)
                      refine hK.out _ _ ?_ (fun hHeld => ?_)
                      · exact ⟨q4, qb0, qb1, qb2, qb3, qb4, qb5, qs0, qs1, qs2⟩
                      try simp only [Act.put, List.setIfInBounds_toArray, List.set_cons_zero, List.set_cons_succ]
                      refine wpAnyH_ready (rs := [10]) (by kernel_rfl) (by simp) ?_
                      refine AllReadyH.cons rfl (fun K hK => ?_) ?_
                      · go_simp
                        refine hK.out _ _ ?_ (fun hHeld => ?_)
                        · exact ⟨z4, zb0, zb1, zb2, zb3, zb4, zb5, zs0, zs1, zs2⟩
                        try simp only [Act.put, List.setIfInBounds_toArray, List.set_cons_zero, List.set_cons_succ]
                        refine wpAnyH_done (by kernel_rfl) ?_ _
                        have HTc := hide ((unhide HTb).set1 (unhide HPP) (.slice (some ⟨g3, 0, none⟩) (W.length + 1) cap3))
                        have HOc : Hid (OwnV (wb.setCell ⟨p1, 0, none⟩ (.slice (some ⟨g3, 0, none⟩) (W.length + 1) cap3)) p1 [(.slice (some ⟨g3, 0, none⟩) (W.length + 1) cap3)]) := (unhide HO1b).set 0 (.slice (some ⟨g3, 0, none⟩) (W.length + 1) cap3) (by simp)
                        generalize wb.setCell ⟨p1, 0, none⟩ (.slice (some ⟨g3, 0, none⟩) (W.length + 1) cap3) = wc at *
                        clear hHeld q1 q1f q4 qb0 qb1 qb2 qb3 qb4 qb5 qs0 qs1 qs2 z4 zb0 zb1 zb2 zb3 zb4 zb5 zs0 zs1 zs2 HTb HO1b HXb c1 c4 b0c b1c b2c b3c b4c b5c x0 x1 x2 HBC0 HBC1 HBC2 HBC3 HBC4 HBC5 HT HO1 HX
                        have hln : (W ++ [(n, wt, cl, co, fr, to, sx, sy, sz)]).length = W.length + 1 := by simp
                        have QI := unhide IHH (W ++ [(n, wt, cl, co, fr, to, sx, sy, sz)]) A2 hs2 (some ⟨g3, 0, none⟩) cap3 bo2 bc2 wc (by rw [hln]; have := unhide HLEN; omega) (fun j hj => by
                          have h1 := unhide HALL (j + 1) (by simp; omega)
                          rw [hln, show W.length + 1 + j = W.length + (j + 1) by omega, h1]
                          rfl) hA5' (unhide HTc) (by rw [hln]; exact unhide HOc)
                        replace QI := hide QI
                        have c6 := (unhide HTc).o6.cell (i := 0) rfl
                        clear HOc
                        go_wp2_with fail
                        refine (unhide QI).mono ?_
                        rintro e w5 ⟨rfl, hpost⟩
                        obtain ⟨A5, hs5, ao5, cap5, bo5, bc5, EA5, hT5, hO5⟩ := tryAns_out hpost
                        clear hpost
                        rw [hln] at hO5
                        obtain ⟨g5, e5, hc5⟩ : ∃ g, ao5 = some ⟨g, 0, none⟩ ∧ W.length + 1 ≤ cap5 := by
                          rcases hT5.row.parts (by decide) with ⟨_, h0, _⟩ | ⟨g, e, _, _, hc, _⟩
                          · rw [hln] at h0; omega
                          · rw [hln] at hc; exact ⟨g, e, hc⟩
                        subst e5
                        have c1 := hO5.cell (i := 0) rfl
                        have f1 := hO5.frozen 0
                        have HT6 := hide (hT5.front.set1 (unhide HPP) (.slice (some ⟨g5, 0, none⟩) W.length cap5))
                        have HO6 : Hid (OwnV (w5.setCell ⟨p1, 0, none⟩ (.slice (some ⟨g5, 0, none⟩) W.length cap5)) p1 [.slice (some ⟨g5, 0, none⟩) W.length cap5]) := hO5.set 0 (.slice (some ⟨g5, 0, none⟩) W.length cap5) (by simp)
                        have hcc : W.length ≤ cap5 := by omega
                        have hcci : (W.length : Int) ≤ cap5 := by omega
                        clear hT5 hO5 QI HTc c6 hln
                        go_wp2
                        go_roundg (S.length - (i + 1))
                        case measure => omega
                        case rel => exact ⟨i + 1, A5, hs5, some ⟨g5, 0, none⟩, cap5, bo5, bc5, by omega, rfl, by go_num, EA5.trans (unhide ET).symm, unhide HT6, unhide HO6⟩
                      exact AllReadyH.nil
                    exact AllReadyH.nil
                  exact AllReadyH.nil
                refine AllReadyH.cons rfl (fun K hK => ?_) ?_
                · go_simp
                  refine hK.out _ _ ?_ (fun hHeld => ?_)
                  · go_keep
                  try simp only [Act.put, List.setIfInBounds_toArray, List.set_cons_zero, List.set_cons_succ]
                  refine wpAnyH_ready (rs := [0]) (by kernel_rfl) (by simp) ?_
                  refine AllReadyH.cons rfl (fun K hK => ?_) ?_
                  · go_simp
                    refine hK.out _ _ ?_ (fun hHeld => ?_)
                    · go_keep
                    try simp only [Act.put, List.setIfInBounds_toArray, List.set_cons_zero, List.set_cons_succ]
                    refine wpAnyH_ready (rs := [9]) (by kernel_rfl) (by simp) ?_
                    refine AllReadyH.cons rfl (fun K hK => ?_) ?_
                    · first | (refine step_appRow tyStow _ (by rfl) (.tmp 53) (.tmp 61) (by rfl) M ao2 W.length cap2 W (by rfl) (((unhide HT).row).below (Below.alloc1 V (.cells #[.string n, .int .i64 wt, .int .i64 cl, .bool co, .int .i64 fr, .int .i64 to, .int .i64 sx, .int .i64 sy, .int .i64 sz] 44))) (Nat.le_trans (unhide HT).msz (by simp)) (by omega) V.heap.size (n, wt, cl, co, fr, to, sx, sy, sz) 1 (by rfl) ((ownV_alloc V #[.string n, .int .i64 wt, .int .i64 cl, .bool co, .int .i64 fr, .int .i64 to, .int .i64 sx, .int .i64 sy, .int .i64 sz] 44)) ?_; intro g3 cap3 wb hL hK0 hBg hat; have hK : Kept (fun k => ao2 = some ⟨k, 0, none⟩) (V.alloc (.cells #[.string n, .int .i64 wt, .int .i64 cl, .bool co, .int .i64 fr, .int .i64 to, .int .i64 sx, .int .i64 sy, .int .i64 sz] 44)) wb := ⟨hK0.os, hK0.tape, hK0.output, hK0.size, hK0.block⟩; have HTb := hide ((unhide HT).app (unhide HPP) hL hK hat); have HO1b := hide ((OwnV.alloc (unhide HO1) (.cells #[.string n, .int .i64 wt, .int .i64 cl, .bool co, .int .i64 fr, .int .i64 to, .int .i64 sx, .int .i64 sy, .int .i64 sz] 44)).kept hK (unhide HN1)); have HXb := hide ((OwnV.alloc (unhide HX) (.cells #[.string n, .int .i64 wt, .int .i64 cl, .bool co, .int .i64 fr, .int .i64 to, .int .i64 sx, .int .i64 sy, .int .i64 sz] 44)).kept hK (unhide HNE)); have q1 := (unhide HO1b).cell (i := 0) rfl; have q1f := (unhide HO1b).frozen 0; have q4 := ((unhide HTb).bel.cell (lt_of_cell (unhide HC4))).trans (unhide HC4); have qb0 := ((unhide HTb).bel.cell (lt_of_cell (unhide HBC0))).trans (unhide HBC0); have qb1 := ((unhide HTb).bel.cell (lt_of_cell (unhide HBC1))).trans (unhide HBC1); have qb2 := ((unhide HTb).bel.cell (lt_of_cell (unhide HBC2))).trans (unhide HBC2); have qb3 := ((unhide HTb).bel.cell (lt_of_cell (unhide HBC3))).trans (unhide HBC3); have qb4 := ((unhide HTb).bel.cell (lt_of_cell (unhide HBC4))).trans (unhide HBC4); have qb5 := ((unhide HTb).bel.cell (lt_of_cell (unhide HBC5))).trans (unhide HBC5); have qs0 := (unhide HXb).cell (i := 0) rfl; have qs1 := (unhide HXb).cell (i := 1) rfl; have qs2 := (unhide HXb).cell (i := 2) rfl; have z4 := cell_setOther wb (p := ⟨p1, 0, none⟩) (q := ⟨p4, 0, none⟩) (show p1 ≠ p4 by omega) (.slice (some ⟨g3, 0, none⟩) (W.length + 1) cap3) q4; have zb0 := cell_setOther wb (p := ⟨p1, 0, none⟩) (q := ⟨bb, bO' + W.length * 6, none⟩) (show p1 ≠ bb by omega) (.slice (some ⟨g3, 0, none⟩) (W.length + 1) cap3) qb0; have zb1 := cell_setOther wb (p := ⟨p1, 0, none⟩) (q := ⟨bb, bO' + W.length * 6 + 1, none⟩) (show p1 ≠ bb by omega) (.slice (some ⟨g3, 0, none⟩) (W.length + 1) cap3) qb1; have zb2 := cell_setOther wb (p := ⟨p1, 0, none⟩) (q := ⟨bb, bO' + W.length * 6 + 2, none⟩) (show p1 ≠ bb by omega) (.slice (some ⟨g3, 0, none⟩) (W.length + 1) cap3) qb2; have zb3 := cell_setOther wb (p := ⟨p1, 0, none⟩) (q := ⟨bb, bO' + W.length * 6 + 3, none⟩) (show p1 ≠ bb by omega) (.slice (some ⟨g3, 0, none⟩) (W.length + 1) cap3) qb3; have zb4 := cell_setOther wb (p := ⟨p1, 0, none⟩) (q := ⟨bb, bO' + W.length * 6 + 4, none⟩) (show p1 ≠ bb by omega) (.slice (some ⟨g3, 0, none⟩) (W.length + 1) cap3) qb4; have zb5 := cell_setOther wb (p := ⟨p1, 0, none⟩) (q := ⟨bb, bO' + W.length * 6 + 5, none⟩) (show p1 ≠ bb by omega) (.slice (some ⟨g3, 0, none⟩) (W.length + 1) cap3) qb5; have zs0 := cell_setOther wb (p := ⟨p1, 0, none⟩) (q := ⟨gs, 0, none⟩) (show p1 ≠ gs by omega) (.slice (some ⟨g3, 0, none⟩) (W.length + 1) cap3) qs0; have zs1 := cell_setOther wb (p := ⟨p1, 0, none⟩) (q := ⟨gs, 1, none⟩) (show p1 ≠ gs by omega) (.slice (some ⟨g3, 0, none⟩) (W.length + 1) cap3) qs1; have zs2 := cell_setOther wb (p := ⟨p1, 0, none⟩) (q := ⟨gs, 2, none⟩) (show p1 ≠ gs by omega) (.slice (some ⟨g3, 0, none⟩) (W.length + 1) cap3) qs2; clear hL hK0 hK hat hBg) | (refine step_appRow tyStow _ (by rfl) (.tmp 53) (.tmp 61) (by rfl) M ao2 W.length cap2 W (by rfl) (RowB.below (((unhide HT).row).below (Below.alloc1 V (.cells #[.string n, .int .i64 wt, .int .i64 cl, .bool co, .int .i64 fr, .int .i64 to, .int .i64 sx, .int .i64 sy, .int .i64 sz] 44))) (Below.refl _ _).drew) (Nat.le_trans (unhide HT).msz (by simp)) (by omega) V.heap.size (n, wt, cl, co, fr, to, sx, sy, sz) 1 (by rfl) ((ownV_alloc V #[.string n, .int .i64 wt, .int .i64 cl, .bool co, .int .i64 fr, .int .i64 to, .int .i64 sx, .int .i64 sy, .int .i64 sz] 44).drew) ?_; intro g3 cap3 wb hL hK0 hBg hat; have hK : Kept (fun k => ao2 = some ⟨k, 0, none⟩) (V.alloc (.cells #[.string n, .int .i64 wt, .int .i64 cl, .bool co, .int .i64 fr, .int .i64 to, .int .i64 sx, .int .i64 sy, .int .i64 sz] 44)) wb := ⟨hK0.os, hK0.tape, hK0.output, hK0.size, hK0.block⟩; have HTb := hide ((unhide HT).app (unhide HPP) hL hK hat); have HO1b := hide ((OwnV.alloc (unhide HO1) (.cells #[.string n, .int .i64 wt, .int .i64 cl, .bool co, .int .i64 fr, .int .i64 to, .int .i64 sx, .int .i64 sy, .int .i64 sz] 44)).kept hK (unhide HN1)); have HXb := hide ((OwnV.alloc (unhide HX) (.cells #[.string n, .int .i64 wt, .int .i64 cl, .bool co, .int .i64 fr, .int .i64 to, .int .i64 sx, .int .i64 sy, .int .i64 sz] 44)).kept hK (unhide HNE)); have q1 := (unhide HO1b).cell (i := 0) rfl; have q1f := (unhide HO1b).frozen 0; have q4 := ((unhide HTb).bel.cell (lt_of_cell (unhide HC4))).trans (unhide HC4); have qb0 := ((unhide HTb).bel.cell (lt_of_cell (unhide HBC0))).trans (unhide HBC0); have qb1 := ((unhide HTb).bel.cell (lt_of_cell (unhide HBC1))).trans (unhide HBC1); have qb2 := ((unhide HTb).bel.cell (lt_of_cell (unhide HBC2))).trans (unhide HBC2); have qb3 := ((unhide HTb).bel.cell (lt_of_cell (unhide HBC3))).trans (unhide HBC3); have qb4 := ((unhide HTb).bel.cell (lt_of_cell (unhide HBC4))).trans (unhide HBC4); have qb5 := ((unhide HTb).bel.cell (lt_of_cell (unhide HBC5))).trans (unhide HBC5); have qs0 := (unhide HXb).cell (i := 0) rfl; have qs1 := (unhide HXb).cell (i := 1) rfl; have qs2 := (unhide HXb).cell (i := 2) rfl; have z4 := cell_setOther wb (p := ⟨p1, 0, none⟩) (q := ⟨p4, 0, none⟩) (show p1 ≠ p4 by omega) (.slice (some ⟨g3, 0, none⟩) (W.length + 1) cap3) q4; have zb0 := cell_setOther wb (p := ⟨p1, 0, none⟩) (q := ⟨bb, bO' + W.length * 6, none⟩) (show p1 ≠ bb by omega) (.slice (some ⟨g3, 0, none⟩) (W.length + 1) cap3) qb0; have zb1 := cell_setOther wb (p := ⟨p1, 0, none⟩) (q := ⟨bb, bO' + W.length * 6 + 1, none⟩) (show p1 ≠ bb by omega) (.slice (some ⟨g3, 0, none⟩) (W.length + 1) cap3) qb1; have zb2 := cell_setOther wb (p := ⟨p1, 0, none⟩) (q := ⟨bb, bO' + W.length * 6 + 2, none⟩) (show p1 ≠ bb by omega) (.slice (some ⟨g3, 0, none⟩) (W.length + 1) cap3) qb2; have zb3 := cell_setOther wb (p := ⟨p1, 0, none⟩) (q := ⟨bb, bO' + W.length * 6 + 3, none⟩) (show p1 ≠ bb by omega) (.slice (some ⟨g3, 0, none⟩) (W.length + 1) cap3) qb3; have zb4 := cell_setOther wb (p := ⟨p1, 0, none⟩) (q := ⟨bb, bO' + W.length * 6 + 4, none⟩) (show p1 ≠ bb by omega) (.slice (some ⟨g3, 0, none⟩) (W.length + 1) cap3) qb4; have zb5 := cell_setOther wb (p := ⟨p1, 0, none⟩) (q := ⟨bb, bO' + W.length * 6 + 5, none⟩) (show p1 ≠ bb by omega) (.slice (some ⟨g3, 0, none⟩) (W.length + 1) cap3) qb5; have zs0 := cell_setOther wb (p := ⟨p1, 0, none⟩) (q := ⟨gs, 0, none⟩) (show p1 ≠ gs by omega) (.slice (some ⟨g3, 0, none⟩) (W.length + 1) cap3) qs0; have zs1 := cell_setOther wb (p := ⟨p1, 0, none⟩) (q := ⟨gs, 1, none⟩) (show p1 ≠ gs by omega) (.slice (some ⟨g3, 0, none⟩) (W.length + 1) cap3) qs1; have zs2 := cell_setOther wb (p := ⟨p1, 0, none⟩) (q := ⟨gs, 2, none⟩) (show p1 ≠ gs by omega) (.slice (some ⟨g3, 0, none⟩) (W.length + 1) cap3) qs2; clear hL hK0 hK hat hBg)
                      refine hK.out _ _ ?_ (fun hHeld => ?_)
                      · exact ⟨q4, qb0, qb1, qb2, qb3, qb4, qb5, qs0, qs1, qs2⟩
                      try simp only [Act.put, List.setIfInBounds_toArray, List.set_cons_zero, List.set_cons_succ]
                      refine wpAnyH_ready (rs := [10]) (by kernel_rfl) (by simp) ?_
                      refine AllReadyH.cons rfl (fun K hK => ?_) ?_
                      · go_simp
                        refine hK.out _ _ ?_ (fun hHeld => ?_)
                        · exact ⟨z4, zb0, zb1, zb2, zb3, zb4, zb5, zs0, zs1, zs2⟩
                        try simp only [Act.put, List.setIfInBounds_toArray, List.set_cons_zero, List.set_cons_succ]
                        refine wpAnyH_done (by kernel_rfl) ?_ _
                        have HTc := hide ((unhide HTb).set1 (unhide HPP) (.slice (some ⟨g3, 0, none⟩) (W.length + 1) cap3))
                        have HOc : Hid (OwnV (wb.setCell ⟨p1, 0, none⟩ (.slice (some ⟨g3, 0, none⟩) (W.length + 1) cap3)) p1 [(.slice (some ⟨g3, 0, none⟩) (W.length + 1) cap3)]) := (unhide HO1b).set 0 (.slice (some ⟨g3, 0, none⟩) (W.length + 1) cap3) (by simp)
                        generalize wb.setCell ⟨p1, 0, none⟩ (.slice (some ⟨g3, 0, none⟩) (W.length + 1) cap3) = wc at *
                        clear hHeld q1 q1f q4 qb0 qb1 qb2 qb3 qb4 qb5 qs0 qs1 qs2 z4 zb0 zb1 zb2 zb3 zb4 zb5 zs0 zs1 zs2 HTb HO1b HXb c1 c4 b0c b1c b2c b3c b4c b5c x0 x1 x2 HBC0 HBC1 HBC2 HBC3 HBC4 HBC5 HT HO1 HX
                        have hln : (W ++ [(n, wt, cl, co, fr, to, sx, sy, sz)]).length = W.length + 1 := by simp
                        have QI := unhide IHH (W ++ [(n, wt, cl, co, fr, to, sx, sy, sz)]) A2 hs2 (some ⟨g3, 0, none⟩) cap3 bo2 bc2 wc (by rw [hln]; have := unhide HLEN; omega) (fun j hj => by
                          have h1 := unhide HALL (j + 1) (by simp; omega)
                          rw [hln, show W.length + 1 + j = W.length + (j + 1) by omega, h1]
                          rfl) hA5' (unhide HTc) (by rw [hln]; exact unhide HOc)
                        replace QI := hide QI
                        have c6 := (unhide HTc).o6.cell (i := 0) rfl
                        clear HOc
                        go_wp2_with fail
                        refine (unhide QI).mono ?_
                        rintro e w5 ⟨rfl, hpost⟩
                        obtain ⟨A5, hs5, ao5, cap5, bo5, bc5, EA5, hT5, hO5⟩ := tryAns_out hpost
                        clear hpost
                        rw [hln] at hO5
                        obtain ⟨g5, e5, hc5⟩ : ∃ g, ao5 = some ⟨g, 0, none⟩ ∧ W.length + 1 ≤ cap5 := by
                          rcases hT5.row.parts (by decide) with ⟨_, h0, _⟩ | ⟨g, e, _, _, hc, _⟩
                          · rw [hln] at h0; omega
                          · rw [hln] at hc; exact ⟨g, e, hc⟩
                        subst e5
                        have c1 := hO5.cell (i := 0) rfl
                        have f1 := hO5.frozen 0
                        have HT6 := hide (hT5.front.set1 (unhide HPP) (.slice (some ⟨g5, 0, none⟩) W.length cap5))
                        have HO6 : Hid (OwnV (w5.setCell ⟨p1, 0, none⟩ (.slice (some ⟨g5, 0, none⟩) W.length cap5)) p1 [.slice (some ⟨g5, 0, none⟩) W.length cap5]) := hO5.set 0 (.slice (some ⟨g5, 0, none⟩) W.length cap5) (by simp)
                        have hcc : W.length ≤ cap5 := by omega
                        have hcci : (W.length : Int) ≤ cap5 := by omega
                        clear hT5 hO5 QI HTc c6 hln
                        go_wp2
                        go_roundg (S.length - (i + 1))
                        case measure => omega
                        case rel => exact ⟨i + 1, A5, hs5, some ⟨g5, 0, none⟩, cap5, bo5, bc5, by omega, rfl, by go_num, EA5.trans (unhide ET).symm, unhide HT6, unhide HO6⟩
                      exact AllReadyH.nil
                    exact AllReadyH.nil
                  exact AllReadyH.nil
                exact AllReadyH.nil
              exact AllReadyH.nil
          · have hie : i = S.length := by omega
            subst hie
            have E : Hid ((A2, hs2) = tryF H S (b0 :: bs) W (A, true)) := (unhide EA).trans (unhide EG).symm
            have hii : ¬ (S.length : Int) < S.length := by omega
            clear EG EA
            go_wp2
            go_end0
            exact ⟨rfl, tryAns_mk (unhide E) (unhide HT) (unhide HO1)⟩
    | false =>
      have hcut : Hid (¬ (false = true ∧ over A ≤ over W)) := fun h => by cases h.1
      go_enter Try.func77, Try.ntmps77
      go_wp2
      go_quiet (fail)
      have hb : Below w.heap.size w (w.drewN nq) := ⟨rfl, rfl, rfl, Nat.le_refl _, fun _ _ => rfl⟩
      clear c0 c1 c2
      replace HT := hide ((unhide HT).below hb)
      replace HO1 := hide ((unhide HO1).step hb)
      clear hb
      generalize w.drewN nq = w1 at *
      have c1 := (unhide HO1).cell (i := 0) rfl
      have c3 := ((unhide HT).bel.cell (lt_of_cell (unhide HC3))).trans (unhide HC3)
      go_wp2_with fail
      refine (unhide QC w1 ((unhide HRH).below (unhide HT).bel) (unhide HT).stow).mono ?_
      rintro e w2 ⟨rfl, hb⟩
      replace HT := hide ((unhide HT).below hb)
      replace HO1 := hide ((unhide HO1).step hb)
      clear hb QC c1 c3
      have c1 := (unhide HO1).cell (i := 0) rfl
      have c4 := ((unhide HT).bel.cell (lt_of_cell (unhide HC4))).trans (unhide HC4)
      have QM := hide fun V => mayBeMended_any cd V
      have c5 := (unhide HT).o5.cell (i := 0) rfl
      by_cases hc : cd = 0 ∨ cd = 4
      case neg =>
        have d1 : decide (cd = 0 ∨ cd = 4) = false := by simp only [decide_eq_false_iff_not]; exact hc
        rw [d1] at QM
        have E := hide (unhide EC1 (unhide hcut) hc)
        clear hc EC0 EC1 IHH d1
        go_wp2_with fail
        refine (unhide QM _).mono ?_
        rintro e w3 ⟨rfl, rfl⟩
        go_wp2
        refine bodyPost_ret (v := .tuple #[]) (by simp [results, Try.results77, go_sem]) rfl ⟨rfl, tryAns_mk (unhide E).symm (unhide HT) (unhide HO1)⟩
      have d1 : decide (cd = 0 ∨ cd = 4) = true := by simp only [decide_eq_true_eq]; exact hc
      rw [d1] at QM
      have EG := hide (unhide EC0 (unhide hcut) hc)
      clear hc EC0 EC1 d1 hcut
      go_wp2_with fail
      refine (unhide QM _).mono ?_
      rintro e w3 ⟨rfl, rfl⟩
      clear QM
      go_wp2
      clear c1 c4 c5
      go_loopg [46] S.length (fun g iv wr => ∃ (i : Nat) (A2 : List StowT) (hs2 : Bool) (ao2 : Option Addr) (cap2 : Nat) (bo2 : Option Addr) (bc2 : Nat), i ≤ S.length ∧ g = S.length - i ∧ iv = .int .i64 i ∧ Hid ((A2, hs2) = tryT H S b0 bs W (A, false) i) ∧ Hid (TrS U M p0 p2 p5 p6 (.func (.func 77) #[] #[.pointer (some ⟨p0, 0, none⟩), .pointer (some ⟨p1, 0, none⟩), .pointer (some ⟨p2, 0, none⟩), .pointer (some ⟨p3, 0, none⟩), .pointer (some ⟨p4, 0, none⟩), .pointer (some ⟨p5, 0, none⟩), .pointer (some ⟨p6, 0, none⟩)]) (.slice po S.length pcap) wr W A2 hs2 ao2 cap2 bo2 bc2) ∧ Hid (OwnV wr p1 [.slice ao2 W.length cap2]))
      case atStart => exact ⟨0, A, false, ao, cap, bo, bc, Nat.zero_le _, rfl, rfl, rfl, unhide HT, unhide HO1⟩
      case round =>
        clear HT HO1
        obtain ⟨i, A2, hs2, ao2, cap2, bo2, bc2, hi, rfl, rfl, EA, HT, HO1⟩ := hrel
        by_cases hin : i < S.length
        · have hii : (i : Int) < S.length := by omega
          have ET1 : Hid (hasB W (S.getD i default) = true → tryT H S b0 bs W (A, false) (i + 1) = tryT H S b0 bs W (A, false) i) := fun h => by rw [tryT, if_pos h]
          have ET2 : Hid (hasB W (S.getD i default) = false → tryT H S b0 bs W (A, false) (i + 1) = tryF H S bs (W ++ [mkS b0 (S.getD i default)]) (tryT H S b0 bs W (A, false) i)) := fun h => by rw [tryT, if_neg (by rw [h]; decide)]
          have hA5' : A2.length ≤ 5 := by have := unhide ELN i; rw [← unhide EA] at this; exact this
          rw [← unhide EA] at ET1 ET2
          obtain ⟨sb, sO, sx, sy, sz, rfl, hc0, hc1, hc2, EX⟩ := rec3At (unhide HPC) hin
          have s0 := ((unhide HT).bel.cell (lt_of_cell hc0)).trans hc0
          have s1 := ((unhide HT).bel.cell (lt_of_cell hc1)).trans hc1
          have s2 := ((unhide HT).bel.cell (lt_of_cell hc2)).trans hc2
          rw [unhide EX] at ET1 ET2
          have QT := hide fun V (h : RStow V (.slice ao2 W.length cap2) W) => isTaken_any _ W sx sy sz V h
          unfold v3 at QT
          clear hc0 hc1 hc2 EX
          have hA1 := Below.alloc1 wr (.cells #[.int .i64 sx, .int .i64 sy, .int .i64 sz] 29)
          have HX := hide (ownV_alloc wr #[.int .i64 sx, .int .i64 sy, .int .i64 sz] 29)
          have HN0 : Hid (∀ g, ao2 = some ⟨g, 0, none⟩ → M ≤ g ∧ g < wr.heap.size) := fun g e => by
            rcases (unhide HT).row.parts (by decide) with ⟨e2, _⟩ | ⟨g2, e2, h1, h2, _⟩
            · rw [e] at e2; cases e2
            · rw [e] at e2; simp only [Option.some.injEq, Addr.mk.injEq, and_true] at e2; omega
          have hmsz := (unhide HT).msz
          replace HT := hide ((unhide HT).below hA1)
          replace HO1 := hide ((unhide HO1).step hA1)
          clear hA1
          obtain ⟨gs, egs⟩ : ∃ g, g = wr.heap.size := ⟨_, rfl⟩
          rw [← egs] at HX HN0 hmsz
          have HNE : Hid (¬ ao2 = some ⟨gs, 0, none⟩) := fun e => by have := unhide HN0 gs e; omega
          have HN1 : Hid (¬ ao2 = some ⟨p1, 0, none⟩) := fun e => by have := unhide HN0 p1 e; omega
          have c1 := (unhide HO1).cell (i := 0) rfl
          have x0 := (unhide HX).cell (i := 0) rfl
          have x1 := (unhide HX).cell (i := 1) rfl
          have x2 := (unhide HX).cell (i := 2) rfl
          clear HN0
          generalize hasB W (sx, sy, sz) = tk at *
          go_wp2_with fail
          rw [← egs]
          clear egs
          refine (unhide QT _ (unhide HT).stow).mono ?_
          rintro e V ⟨rfl, hb⟩
          replace HT := hide ((unhide HT).below hb)
          replace HO1 := hide ((unhide HO1).step hb)
          replace HX := hide ((unhide HX).step hb)
          clear hb QT c1 x0 x1 x2 s0 s1 s2
          cases tk with
          | true =>
            have ET := hide (unhide ET1 rfl)
            clear ET1 ET2 EA
            go_wp2
            go_roundg (S.length - (i + 1))
            case measure => omega
            case rel => exact ⟨i + 1, A2, hs2, ao2, cap2, bo2, bc2, by omega, rfl, by go_num, (unhide ET).symm, unhide HT, unhide HO1⟩
          | false =>
            have ET := hide (unhide ET2 rfl)
            clear ET1 ET2 EA
            obtain ⟨bb, bO', n, wt, cl, co, fr, to, rfl, hc0, hc1, hc2, hc3, hc4, hc5, EX⟩ := recBoxAt (unhide HXC) hlt
            have EMK : Hid (mkS b0 (sx, sy, sz) = (n, wt, cl, co, fr, to, sx, sy, sz)) := by show _ = _; rw [← unhide HB0, unhide EX]; rfl
            rw [unhide EMK] at ET
            have HBC0 := hide hc0
            have HBC1 := hide hc1
            have HBC2 := hide hc2
            have HBC3 := hide hc3
            have HBC4 := hide hc4
            have HBC5 := hide hc5
            have hbbl := lt_of_cell hc0
            have hp4l := lt_of_cell (unhide HC4)
            dsimp only at hbbl hp4l
            have c1 := (unhide HO1).cell (i := 0) rfl
            have c4 := ((unhide HT).bel.cell (lt_of_cell (unhide HC4))).trans (unhide HC4)
            have b0c := ((unhide HT).bel.cell (lt_of_cell hc0)).trans hc0
            have b1c := ((unhide HT).bel.cell (lt_of_cell hc1)).trans hc1
            have b2c := ((unhide HT).bel.cell (lt_of_cell hc2)).trans hc2
            have b3c := ((unhide HT).bel.cell (lt_of_cell hc3)).trans hc3
            have b4c := ((unhide HT).bel.cell (lt_of_cell hc4)).trans hc4
            have b5c := ((unhide HT).bel.cell (lt_of_cell hc5)).trans hc5
            have x0 := (unhide HX).cell (i := 0) rfl
            have x1 := (unhide HX).cell (i := 1) rfl
            have x2 := (unhide HX).cell (i := 2) rfl
            have hp1l := (unhide HO1).lt
            have hgsl := (unhide HX).lt
            clear hc0 hc1 hc2 hc3 hc4 hc5 EX EMK
            go_wp2
            refine wp_region_held_drew (S := fun z => z.cell? ⟨p4, 0, none⟩ = some (.slice (some ⟨bb, bO', none⟩) BX.length xcap) ∧ z.cell? ⟨bb, bO' + W.length * 6, none⟩ = some (.string n) ∧ z.cell? ⟨bb, bO' + W.length * 6 + 1, none⟩ = some (.int .i64 wt) ∧ z.cell? ⟨bb, bO' + W.length * 6 + 2, none⟩ = some (.int .i64 cl) ∧ z.cell? ⟨bb, bO' + W.length * 6 + 3, none⟩ = some (.bool co) ∧ z.cell? ⟨bb, bO' + W.length * 6 + 4, none⟩ = some (.int .i64 fr) ∧ z.cell? ⟨bb, bO' + W.length * 6 + 5, none⟩ = some (.int .i64 to) ∧ z.cell? ⟨gs, 0, none⟩ = some (.int .i64 sx) ∧ z.cell? ⟨gs, 1, none⟩ = some (.int .i64 sy) ∧ z.cell? ⟨gs, 2, none⟩ = some (.int .i64 sz)) (by kernel_rfl) ⟨c4, b0c, b1c, b2c, b3c, b4c, b5c, x0, x1, x2⟩ (fun hHeld => ?_)
            refine wpAnyH_take (i := 1) (v := ?_) rfl (by kernel_rfl) (by kernel_rfl) (by kernel_rfl) (fun _ _ _ h => h) (Or.inl ⟨by rfl, ?_⟩) (by assumption) ?_
            rotate_left
            · intro wy hSw
              obtain ⟨e4, eb0, eb1, eb2, eb3, eb4, eb5, es0, es1, es2⟩ := hSw
              go_simp
              try with_reducible rfl
            simp only [Act.put, List.setIfInBounds_toArray, List.set_cons_zero, List.set_cons_succ]
            refine wpAnyH_take (i := 6) (v := ?_) rfl (by kernel_rfl) (by kernel_rfl) (by kernel_rfl) (fun _ _ _ h => h) (Or.inl ⟨by rfl, ?_⟩) (by assumption) ?_
            rotate_left
            · intro wy hSw
              obtain ⟨e4, eb0, eb1, eb2, eb3, eb4, eb5, es0, es1, es2⟩ := hSw
              go_simp
              try with_reducible rfl
            simp only [Act.put, List.setIfInBounds_toArray, List.set_cons_zero, List.set_cons_succ]
            refine wpAnyH_ready (rs := [0, 2]) (by kernel_rfl) (by simp) ?_
            refine AllReadyH.cons rfl (fun K hK => ?_) ?_
            · go_simp
              refine hK.out _ _ ?_ (fun hHeld => ?_)
              · go_keep
              try simp only [Act.put, List.setIfInBounds_toArray, List.set_cons_zero, List.set_cons_succ]
              refine wpAnyH_ready (rs := [2]) (by kernel_rfl) (by simp) ?_
              refine AllReadyH.cons rfl (fun K hK => ?_) ?_
              · go_simp
                refine hK.out _ _ ?_ (fun hHeld => ?_)
                · go_keep
                try simp only [Act.put, List.setIfInBounds_toArray, List.set_cons_zero, List.set_cons_succ]
                refine wpAnyH_take (i := 3) (v := ?_) rfl (by kernel_rfl) (by kernel_rfl) (by kernel_rfl) (fun _ _ _ h => h) (Or.inl ⟨by rfl, ?_⟩) (by assumption) ?_
                rotate_left
                · intro wy hSw
                  obtain ⟨e4, eb0, eb1, eb2, eb3, eb4, eb5, es0, es1, es2⟩ := hSw
                  go_simp
                  try with_reducible rfl
                simp only [Act.put, List.setIfInBounds_toArray, List.set_cons_zero, List.set_cons_succ]
                refine wpAnyH_take (i := 4) (v := ?_) rfl (by kernel_rfl) (by kernel_rfl) (by kernel_rfl) (fun _ _ _ h => h) (Or.inl ⟨by rfl, ?_⟩) (by assumption) ?_
                rotate_left
                · intro wy hSw
                  obtain ⟨e4, eb0, eb1, eb2, eb3, eb4, eb5, es0, es1, es2⟩ := hSw
                  go_simp
                  try with_reducible rfl
                simp only [Act.put, List.setIfInBounds_toArray, List.set_cons_zero, List.set_cons_succ]
                refine wpAnyH_take (i := 5) (v := ?_) rfl (by kernel_rfl) (by kernel_rfl) (by kernel_rfl) (fun _ _ _ h => h) (Or.inl ⟨by rfl, ?_⟩) (by assumption) ?_
                rotate_left
                · intro wy hSw
                  obtain ⟨e4, eb0, eb1, eb2, eb3, eb4, eb5, es0, es1, es2⟩ := hSw
                  go_simp
                  try with_reducible rfl
                simp only [Act.put, List.setIfInBounds_toArray, List.set_cons_zero, List.set_cons_succ]
                refine wpAnyH_take (i := 7) (v := ?_) rfl (by kernel_rfl) (by kernel_rfl) (by kernel_rfl) (fun _ _ _ h => h) (Or.inl ⟨by rfl, ?_⟩) (by assumption) ?_
                rotate_left
                · intro wy hSw
                  obtain ⟨e4, eb0, eb1, eb2, eb3, eb4, eb5, es0, es1, es2⟩ := hSw
                  go_simp
                  try with_reducible rfl
                simp only [Act.put, List.setIfInBounds_toArray, List.set_cons_zero, List.set_cons_succ]
                refine wpAnyH_ready (rs := [8]) (by kernel_rfl) (by simp) ?_
                refine AllReadyH.cons rfl (fun K hK => ?_) ?_
                · go_simp
                  refine hK.out _ _ ?_ (fun hHeld => ?_)
                  · go_keep
                  try simp only [Act.put, List.setIfInBounds_toArray, List.set_cons_zero, List.set_cons_succ]
                  refine wpAnyH_ready (rs := [9]) (by kernel_rfl) (by simp) ?_
                  refine AllReadyH.cons rfl (fun K hK => ?_) ?_
                  · first | (refine step_appRow tyStow _ (by rfl) (.tmp 53) (.tmp 61) (by rfl) M ao2 W.length cap2 W (by rfl) (((unhide HT).row).below (Below.alloc1 V (.cells #[.string n, .int .i64 wt, .int .i64 cl, .bool co, .int .i64 fr, .int .i64 to, .int .i64 sx, .int .i64 sy, .int .i64 sz] 44))) (Nat.le_trans (unhide HT).msz (by simp)) (by omega) V.heap.size (n, wt, cl, co, fr, to, sx, sy, sz) 1 (by rfl) ((ownV_alloc V #[.string n, .int .i64 wt, .int .i64 cl, .bool co, .int .i64 fr, .int .i64 to, .int .i64 sx, .int .i64 sy, .int .i64 sz] 44)) ?_; intro g3 cap3 wb hL hK0 hBg hat; have hK : Kept (fun k => ao2 = some ⟨k, 0, none⟩) (V.alloc (.cells #[.string n, .int .i64 wt, .int .i64 cl, .bool co, .int .i64 fr, .int .i64 to, .int .i64 sx, .int .i64 sy, .int .i64 sz] 44)) wb := ⟨hK0.os, hK0.tape, hK0.output, hK0.size, hK0.block⟩; have HTb := hide ((unhide HT).app (unhide HPP) hL hK hat); have HO1b := hide ((OwnV.alloc (unhide HO1) (.cells #[.string n, .int .i64 wt, .int .i64 cl, .bool co, .int .i64 fr, .int .i64 to, .int .i64 sx, .int .i64 sy, .int .i64 sz] 44)).kept hK (unhide HN1)); have HXb := hide ((OwnV.alloc (unhide HX) (.cells #[.string n, .int .i64 wt, .int .i64 cl, .bool co, .int .i64 fr, .int .i64 to, .int .i64 sx, .int .i64 sy, .int .i64 sz] 44)).kept hK (unhide HNE)); have q1 := (unhide HO1b).cell (i := 0) rfl; have q1f := (unhide HO1b).frozen 0; have q4 := ((unhide HTb).bel.cell (lt_of_cell (unhide HC4))).trans (unhide HC4); have qb0 := ((unhide HTb).bel.cell (lt_of_cell (unhide HBC0))).trans (unhide HBC0); have qb1 := ((unhide HTb).bel.cell (lt_of_cell (unhide HBC1))).trans (unhide HBC1); have qb2 := ((unhide HTb).bel.cell (lt_of_cell (unhide HBC2))).trans (unhide HBC2); have qb3 := ((unhide HTb).bel.cell (lt_of_cell (unhide HBC3))).trans (unhide HBC3); have qb4 := ((unhide HTb).bel.cell (lt_of_cell (unhide HBC4))).trans (unhide HBC4); have qb5 := ((unhide HTb).bel.cell (lt_of_cell (unhide HBC5))).trans (unhide HBC5); have qs0 := (unhide HXb).cell (i := 0) rfl; have qs1 := (unhide HXb).cell (i := 1) rfl; have qs2 := (unhide HXb).cell (i := 2) rfl; have z4 := cell_setOther wb (p := ⟨p1, 0, none⟩) (q := ⟨p4, 0, none⟩) (show p1 ≠ p4 by omega) (.slice (some ⟨g3, 0, none⟩) (W.length + 1) cap3) q4; have zb0 := cell_setOther wb (p := ⟨p1, 0, none⟩) (q := ⟨bb, bO' + W.length * 6, none⟩) (show p1 ≠ bb by omega) (.slice (some ⟨g3, 0, none⟩) (W.length + 1) cap3) qb0; have zb1 := cell_setOther wb (p := ⟨p1, 0, none⟩) (q := ⟨bb, bO' + W.length * 6 + 1, none⟩) (show p1 ≠ bb by omega) (.slice (some ⟨g3, 0, none⟩) (W.length + 1) cap3) qb1; have zb2 := cell_setOther wb (p := ⟨p1, 0, none⟩) (q := ⟨bb, bO' + W.length * 6 + 2, none⟩) (show p1 ≠ bb by omega) (.slice (some ⟨g3, 0, none⟩) (W.length + 1) cap3) qb2; have zb3 := cell_setOther wb (p := ⟨p1, 0, none⟩) (q := ⟨bb, bO' + W.length * 6 + 3, none⟩) (show p1 ≠ bb by omega) (.slice (some ⟨g3, 0, none⟩) (W.length + 1) cap3) qb3; have zb4 := cell_setOther wb (p := ⟨p1, 0, none⟩) (q := ⟨bb, bO' + W.length * 6 + 4, none⟩) (show p1 ≠ bb by omega) (.slice (some ⟨g3, 0, none⟩) (W.length + 1) cap3) qb4; have zb5 := cell_setOther wb (p := ⟨p1, 0, none⟩) (q := ⟨bb, bO' + W.length * 6 + 5, none⟩) (show p1 ≠ bb by omega) (.slice (some ⟨g3, 0, none⟩) (W.length + 1) cap3) qb5; have zs0 := cell_setOther wb (p := ⟨p1, 0, none⟩) (q := ⟨gs, 0, none⟩) (show p1 ≠ gs by omega) (.slice (some ⟨g3, 0, none⟩) (W.length + 1) cap3) qs0; have zs1 := cell_setOther wb (p := ⟨p1, 0, none⟩) (q := ⟨gs, 1, none⟩) (show p1 ≠ gs by omega) (.slice (some ⟨g3, 0, none⟩) (W.length + 1) cap3) qs1; have zs2 := cell_setOther wb (p := ⟨p1, 0, none⟩) (q := ⟨gs, 2, none⟩) (show p1 ≠ gs by omega) (.slice (some ⟨g3, 0, none⟩) (W.length + 1) cap3) qs2; clear hL hK0 hK hat hBg) | (refine step_appRow tyStow _ (by rfl) (.tmp 53) (.tmp 61) (by rfl) M ao2 W.length cap2 W (by rfl) (RowB.below (((unhide HT).row).below (Below.alloc1 V (.cells #[.string n, .int .i64 wt, .int .i64 cl, .bool co, .int .i64 fr, .int .i64 to, .int .i64 sx, .int .i64 sy, .int .i64 sz] 44))) (Below.refl _ _).drew) (Nat.le_trans (unhide HT).msz (by simp)) (by omega) V.heap.size (n, wt, cl, co, fr, to, sx, sy, sz) 1 (by rfl) ((ownV_alloc V #[.string n, .int .i64 wt, .int .i64 cl, .bool co, .int .i64 fr, .int .i64 to, .int .i64 sx, .int .i64 sy, .int .i64 sz] 44).drew) ?_; intro g3 cap3 wb hL hK0 hBg hat; have hK : Kept (fun k => ao2 = some ⟨k, 0, none⟩) (V.alloc (.cells #[.string n, .int .i64 wt, .int .i64 cl, .bool co, .int .i64 fr, .int .i64 to, .int .i64 sx, .int .i64 sy, .int .i64 sz] 44)) wb := ⟨hK0.os, hK0.tape, hK0.output, hK0.size, hK0.block⟩; have HTb := hide ((unhide HT).app (unhide HPP) hL hK hat); have HO1b := hide ((OwnV.alloc (unhide HO1) (.cells #[.string n, .int .i64 wt, .int .i64 cl, .bool co, .int .i64 fr, .int .i64 to, .int .i64 sx, .int .i64 sy, .int .i64 sz] 44)).kept hK (unhide HN1)); have HXb := hide ((OwnV.alloc (unhide HX) (.cells #[.string n, .int .i64 wt, .int .i64 cl, .bool co, .int .i64 fr, .int .i64 to, .int .i64 sx, .int .i64 sy, .int .i64 sz] 44)).kept hK (unhide HNE)); have q1 := (unhide HO1b).cell (i := 0) rfl; have q1f := (unhide HO1b).frozen 0; have q4 := ((unhide HTb).bel.cell (lt_of_cell (unhide HC4))).trans (unhide HC4); have qb0 := ((unhide HTb).bel.cell (lt_of_cell (unhide HBC0))).trans (unhide HBC0); have qb1 := ((unhide HTb).bel.cell (lt_of_cell (unhide HBC1))).trans (unhide HBC1); have qb2 := ((unhide HTb).bel.cell (lt_of_cell (unhide HBC2))).trans (unhide HBC2); have qb3 := ((unhide HTb).bel.cell (lt_of_cell (unhide HBC3))).trans (unhide HBC3); have qb4 := ((unhide HTb).bel.cell (lt_of_cell (unhide HBC4))).trans (unhide HBC4); have qb5 := ((unhide HTb).bel.cell (lt_of_cell (unhide HBC5))).trans (unhide HBC5); have qs0 := (unhide HXb).cell (i := 0) rfl; have qs1 := (unhide HXb).cell (i := 1) rfl; have qs2 := (unhide HXb).cell (i := 2) rfl; have z4 := cell_setOther wb (p := ⟨p1, 0, none⟩) (q := ⟨p4, 0, none⟩) (show p1 ≠ p4 by omega) (.slice (some ⟨g3, 0, none⟩) (W.length + 1) cap3) q4; have zb0 := cell_setOther wb (p := ⟨p1, 0, none⟩) (q := ⟨bb, bO' + W.length * 6, none⟩) (show p1 ≠ bb by omega) (.slice (some ⟨g3, 0, none⟩) (W.length + 1) cap3) qb0; have zb1 := cell_setOther wb (p := ⟨p1, 0, none⟩) (q := ⟨bb, bO' + W.length * 6 + 1, none⟩) (show p1 ≠ bb by omega) (.slice (some ⟨g3, 0, none⟩) (W.length + 1) cap3) qb1; have zb2 := cell_setOther wb (p := ⟨p1, 0, none⟩) (q := ⟨bb, bO' + W.length * 6 + 2, none⟩) (show p1 ≠ bb by omega) (.slice (some ⟨g3, 0, none⟩) (W.length + 1) cap3) qb2; have zb3 := cell_setOther wb (p := ⟨p1, 0, none⟩) (q := ⟨bb, bO' + W.length * 6 + 3, none⟩) (show p1 ≠ bb by omega) (.slice (some ⟨g3, 0, none⟩) (W.length + 1) cap3) qb3; have zb4 := cell_setOther wb (p := ⟨p1, 0, none⟩) (q := ⟨bb, bO' + W.length * 6 + 4, none⟩) (show p1 ≠ bb by omega) (.slice (some ⟨g3, 0, none⟩) (W.length + 1) cap3) qb4; have zb5 := cell_setOther wb (p := ⟨p1, 0, none⟩) (q := ⟨bb, bO' + W.length * 6 + 5, none⟩) (show p1 ≠ bb by omega) (.slice (some ⟨g3, 0, none⟩) (W.length + 1) cap3) qb5; have zs0 := cell_setOther wb (p := ⟨p1, 0, none⟩) (q := ⟨gs, 0, none⟩) (show p1 ≠ gs by omega) (.slice (some ⟨g3, 0, none⟩) (W.length + 1) cap3) qs0; have zs1 := cell_setOther wb (p := ⟨p1, 0, none⟩) (q := ⟨gs, 1, none⟩) (show p1 ≠ gs by omega) (.slice (some ⟨g3, 0, none⟩) (W.length + 1) cap3) qs1; have zs2 := cell_setOther wb (p := ⟨p1, 0, none⟩) (q := ⟨gs, 2, none⟩) (show p1 ≠ gs by omega) (.slice (some ⟨g3, 0, none⟩) (W.length + 1) cap3) qs2; clear hL hK0 hK hat hBg)
                    refine hK.out _ _ ?_ (fun hHeld => ?_)
                    · exact ⟨q4, qb0, qb1, qb2, qb3, qb4, qb5, qs0, qs1, qs2⟩
                    try simp only [Act.put, List.setIfInBounds_toArray, List.set_cons_zero, List.set_cons_succ]
                    refine wpAnyH_ready (rs := [10]) (by kernel_rfl) (by simp) ?_
                    refine AllReadyH.cons rfl (fun K hK => ?_) ?_
                    · go_simp
                      refine hK.out _ _ ?_ (fun hHeld => ?_)
                      · exact ⟨z4, zb0, zb1, zb2, zb3, zb4, zb5, zs0, zs1, zs2⟩
                      try simp only [Act.put, List.setIfInBounds_toArray, List.set_cons_zero, List.set_cons_succ]
                      refine wpAnyH_done (by kernel_rfl) ?_ _
                      have HTc := hide ((unhide HTb).set1 (unhide HPP) (.slice (some ⟨g3, 0, none⟩) (W.length + 1) cap3))
                      have HOc : Hid (OwnV (wb.setCell ⟨p1, 0, none⟩ (.slice (some ⟨g3, 0, none⟩) (W.length + 1) cap3)) p1 [(.slice (some ⟨g3, 0, none⟩) (W.length + 1) cap3)]) := (unhide HO1b).set 0 (.slice (some ⟨g3, 0, none⟩) (W.length + 1) cap3) (by simp)
                      generalize wb.setCell ⟨p1, 0, none⟩ (.slice (some ⟨g3, 0, none⟩) (W.length + 1) cap3) = wc at *
                      clear hHeld q1 q1f q4 qb0 qb1 qb2 qb3 qb4 qb5 qs0 qs1 qs2 z4 zb0 zb1 zb2 zb3 zb4 zb5 zs0 zs1 zs2 HTb HO1b HXb c1 c4 b0c b1c b2c b3c b4c b5c x0 x1 x2 HBC0 HBC1 HBC2 HBC3 HBC4 HBC5 HT HO1 HX
                      have hln : (W ++ [(n, wt, cl, co, fr, to, sx, sy, sz)]).length = W.length + 1 := by simp
                      have QI := unhide IHH (W ++ [(n, wt, cl, co, fr, to, sx, sy, sz)]) A2 hs2 (some ⟨g3, 0, none⟩) cap3 bo2 bc2 wc (by rw [hln]; have := unhide HLEN; omega) (fun j hj => by
                        have h1 := unhide HALL (j + 1) (by simp; omega)
                        rw [hln, show W.length + 1 + j = W.length + (j + 1) by omega, h1]
                        rfl) hA5' (unhide HTc) (by rw [hln]; exact unhide HOc)
                      replace QI := hide QI
                      have c6 := (unhide HTc).o6.cell (i := 0) rfl
                      clear HOc
                      go_wp2_with fail
                      refine (unhide QI).mono ?_
                      rintro e w5 ⟨rfl, hpost⟩
                      obtain ⟨A5, hs5, ao5, cap5, bo5, bc5, EA5, hT5, hO5⟩ := tryAns_out hpost
                      clear hpost
                      rw [hln] at hO5
                      obtain ⟨g5, e5, hc5⟩ : ∃ g, ao5 = some ⟨g, 0, none⟩ ∧ W.length + 1 ≤ cap5 := by
                        rcases hT5.row.parts (by decide) with ⟨_, h0, _⟩ | ⟨g, e, _, _, hc, _⟩
                        · rw [hln] at h0; omega
                        · rw [hln] at hc; exact ⟨g, e, hc⟩
                      subst e5
                      have c1 := hO5.cell (i := 0) rfl
                      have f1 := hO5.frozen 0
                      have HT6 := hide (hT5.front.set1 (unhide HPP) (.slice (some ⟨g5, 0, none⟩) W.length cap5))
                      have HO6 : Hid (OwnV (w5.setCell ⟨p1, 0, none⟩ (.slice (some ⟨g5, 0, none⟩) W.length cap5)) p1 [.slice (some ⟨g5, 0, none⟩) W.length cap5]) := hO5.set 0 (.slice (some ⟨g5, 0, none⟩) W.length cap5) (by simp)
                      have hcc : W.length ≤ cap5 := by omega
                      have hcci : (W.length : Int) ≤ cap5 := by omega
                      clear hT5 hO5 QI HTc c6 hln
                      go_wp2
                      go_roundg (S.length - (i + 1))
                      case measure => omega
                      case rel => exact ⟨i + 1, A5, hs5, some ⟨g5, 0, none⟩, cap5, bo5, bc5, by omega, rfl, by go_num, EA5.trans (unhide ET).symm, unhide HT6, unhide HO6⟩
                    exact AllReadyH.nil
                  exact AllReadyH.nil
                exact AllReadyH.nil
              exact AllReadyH.nil
            refine AllReadyH.cons rfl (fun K hK => ?_) ?_
            · go_simp
              refine hK.out _ _ ?_ (fun hHeld => ?_)
              · go_keep
              try simp only [Act.put, List.setIfInBounds_toArray, List.set_cons_zero, List.set_cons_succ]
              refine wpAnyH_take (i := 3) (v := ?_) rfl (by kernel_rfl) (by kernel_rfl) (by kernel_rfl) (fun _ _ _ h => h) (Or.inl ⟨by rfl, ?_⟩) (by assumption) ?_
              rotate_left
              · intro wy hSw
                obtain ⟨e4, eb0, eb1, eb2, eb3, eb4, eb5, es0, es1, es2⟩ := hSw
                go_simp
                try with_reducible rfl
              simp only [Act.put, List.setIfInBounds_toArray, List.set_cons_zero, List.set_cons_succ]
              refine wpAnyH_take (i := 4) (v := ?_) rfl (by kernel_rfl) (by kernel_rfl) (by kernel_rfl) (fun _ _ _ h => h) (Or.inl ⟨by rfl, ?_⟩) (by assumption) ?_
              rotate_left
              · intro wy hSw
                obtain ⟨e4, eb0, eb1, eb2, eb3, eb4, eb5, es0, es1, es2⟩ := hSw
                go_simp
                try with_reducible rfl
              simp only [Act.put, List.setIfInBounds_toArray, List.set_cons_zero, List.set_cons_succ]
              refine wpAnyH_take (i := 5) (v := ?_) rfl (by kernel_rfl) (by kernel_rfl) (by kernel_rfl) (fun _ _ _ h => h) (Or.inl ⟨by rfl, ?_⟩) (by assumption) ?_
              rotate_left
              · intro wy hSw
                obtain ⟨e4, eb0, eb1, eb2, eb3, eb4, eb5, es0, es1, es2⟩ := hSw
                go_simp
                try with_reducible rfl
              simp only [Act.put, List.setIfInBounds_toArray, List.set_cons_zero, List.set_cons_succ]
              refine wpAnyH_take (i := 7) (v := ?_) rfl (by kernel_rfl) (by kernel_rfl) (by kernel_rfl) (fun _ _ _ h => h) (Or.inl ⟨by rfl, ?_⟩) (by assumption) ?_
              rotate_left
              · intro wy hSw
                obtain ⟨e4, eb0, eb1, eb2, eb3, eb4, eb5, es0, es1, es2⟩ := hSw
                go_simp
                try with_reducible rfl
              simp only [Act.put, List.setIfInBounds_toArray, List.set_cons_zero, List.set_cons_succ]
              refine wpAnyH_ready (rs := [0, 8]) (by kernel_rfl) (by simp) ?_
              refine AllReadyH.cons rfl (fun K hK => ?_) ?_
              · go_simp
                refine hK.out _ _ ?_ (fun hHeld => ?_)
                · go_keep
                try simp only [Act.put, List.setIfInBounds_toArray, List.set_cons_zero, List.set_cons_succ]
                refine wpAnyH_ready (rs := [8]) (by kernel_rfl) (by simp) ?_
                refine AllReadyH.cons rfl (fun K hK => ?_) ?_
                · go_simp
                  refine hK.out _ _ ?_ (fun hHeld => ?_)
                  · go_keep
                  try simp only [Act.put, List.setIfInBounds_toArray, List.set_cons_zero, List.set_cons_succ]
                  refine wpAnyH_ready (rs := [9]) (by kernel_rfl) (by simp) ?_
                  refine AllReadyH.cons rfl (fun K hK => ?_) ?_
                  · first | (refine step_appRow tyStow _ (by rfl) (.tmp 53) (.tmp 61) (by rfl) M ao2 W.length cap2 W (by rfl) (((unhide HT).row).below (Below.alloc1 V (.cells #[.string n, .int .i64 wt, .int .i64 cl, .bool co, .int .i64 fr, .int .i64 to, .int .i64 sx, .int .i64 sy, .int .i64 sz] 44))) (Nat.le_trans (unhide HT).msz (by simp)) (by omega) V.heap.size (n, wt, cl, co, fr, to, sx, sy, sz) 1 (by rfl) ((ownV_alloc V #[.string n, .int .i64 wt, .int .i64 cl, .bool co, .int .i64 fr, .int .i64 to, .int .i64 sx, .int .i64 sy, .int .i64 sz] 44)) ?_; intro g3 cap3 wb hL hK0 hBg hat; have hK : Kept (fun k => ao2 = some ⟨k, 0, none⟩) (V.alloc (.cells #[.string n, .int .i64 wt, .int .i64 cl, .bool co, .int .i64 fr, .int .i64 to, .int .i64 sx, .int .i64 sy, .int .i64 sz] 44)) wb := ⟨hK0.os, hK0.tape, hK0.output, hK0.size, hK0.block⟩; have HTb := hide ((unhide HT).app (unhide HPP) hL hK hat); have HO1b := hide ((OwnV.alloc (unhide HO1) (.cells #[.string n, .int .i64 wt, .int .i64 cl, .bool co, .int .i64 fr, .int .i64 to, .int .i64 sx, .int .i64 sy, .int .i64 sz] 44)).kept hK (unhide HN1)); have HXb := hide ((OwnV.alloc (unhide HX) (.cells #[.string n, .int .i64 wt, .int .i64 cl, .bool co, .int .i64 fr, .int .i64 to, .int .i64 sx, .int .i64 sy, .int .i64 sz] 44)).kept hK (unhide HNE)); have q1 := (unhide HO1b).cell (i := 0) rfl; have q1f := (unhide HO1b).frozen 0; have q4 := ((unhide HTb).bel.cell (lt_of_cell (unhide HC4))).trans (unhide HC4); have qb0 := ((unhide HTb).bel.cell (lt_of_cell (unhide HBC0))).trans (unhide HBC0); have qb1 := ((unhide HTb).bel.cell (lt_of_cell (unhide HBC1))).trans (unhide HBC1); have qb2 := ((unhide HTb).bel.cell (lt_of_cell (unhide HBC2))).trans (unhide HBC2); have qb3 := ((unhide HTb).bel.cell (lt_of_cell (unhide HBC3))).trans (unhide HBC3); have qb4 := ((unhide HTb).bel.cell (lt_of_cell (unhide HBC4))).trans (unhide HBC4); have qb5 := ((unhide HTb).bel.cell (lt_of_cell (unhide HBC5))).trans (unhide HBC5); have qs0 := (unhide HXb).cell (i := 0) rfl; have qs1 := (unhide HXb).cell (i := 1) rfl; have qs2 := (unhide HXb).cell (i := 2) rfl; have z4 := cell_setOther wb (p := ⟨p1, 0, none⟩) (q := ⟨p4, 0, none⟩) (show p1 ≠ p4 by omega) (.slice (some ⟨g3, 0, none⟩) (W.length + 1) cap3) q4; have zb0 := cell_setOther wb (p := ⟨p1, 0, none⟩) (q := ⟨bb, bO' + W.length * 6, none⟩) (show p1 ≠ bb by omega) (.slice (some ⟨g3, 0, none⟩) (W.length + 1) cap3) qb0; have zb1 := cell_setOther wb (p := ⟨p1, 0, none⟩) (q := ⟨bb, bO' + W.length * 6 + 1, none⟩) (show p1 ≠ bb by omega) (.slice (some ⟨g3, 0, none⟩) (W.length + 1) cap3) qb1; have zb2 := cell_setOther wb (p := ⟨p1, 0, none⟩) (q := ⟨bb, bO' + W.length * 6 + 2, none⟩) (show p1 ≠ bb by omega) (.slice (some ⟨g3, 0, none⟩) (W.length + 1) cap3) qb2; have zb3 := cell_setOther wb (p := ⟨p1, 0, none⟩) (q := ⟨bb, bO' + W.length * 6 + 3, none⟩) (show p1 ≠ bb by omega) (.slice (some ⟨g3, 0, none⟩) (W.length + 1) cap3) qb3; have zb4 := cell_setOther wb (p := ⟨p1, 0, none⟩) (q := ⟨bb, bO' + W.length * 6 + 4, none⟩) (show p1 ≠ bb by omega) (.slice (some ⟨g3, 0, none⟩) (W.length + 1) cap3) qb4; have zb5 := cell_setOther wb (p := ⟨p1, 0, none⟩) (q := ⟨bb, bO' + W.length * 6 + 5, none⟩) (show p1 ≠ bb by omega) (.slice (some ⟨g3, 0, none⟩) (W.length + 1) cap3) qb5; have zs0 := cell_setOther wb (p := ⟨p1, 0, none⟩) (q := ⟨gs, 0, none⟩) (show p1 ≠ gs by omega) (.slice (some ⟨g3, 0, none⟩) (W.length + 1) cap3) qs0; have zs1 := cell_setOther wb (p := ⟨p1, 0, none⟩) (q := ⟨gs, 1, none⟩) (show p1 ≠ gs by omega) (.slice (some ⟨g3, 0, none⟩) (W.length + 1) cap3) qs1; have zs2 := cell_setOther wb (p := ⟨p1, 0, none⟩) (q := ⟨gs, 2, none⟩) (show p1 ≠ gs by omega) (.slice (some ⟨g3, 0, none⟩) (W.length + 1) cap3) qs2; clear hL hK0 hK hat hBg) | (refine step_appRow tyStow _ (by rfl) (.tmp 53) (.tmp 61) (by rfl) M ao2 W.length cap2 W (by rfl) (RowB.below (((unhide HT).row).below (Below.alloc1 V (.cells #[.string n, .int .i64 wt, .int .i64 cl, .bool co, .int .i64 fr, .int .i64 to, .int .i64 sx, .int .i64 sy, .int .i64 sz] 44))) (Below.refl _ _).drew) (Nat.le_trans (unhide HT).msz (by simp)) (by omega) V.heap.size (n, wt, cl, co, fr, to, sx, sy, sz) 1 (by rfl) ((ownV_alloc V #[.string n, .int .i64 wt, .int .i64 cl, .bool co, .int .i64 fr, .int .i64 to, .int .i64 sx, .int .i64 sy, .int .i64 sz] 44).drew) ?_; intro g3 cap3 wb hL hK0 hBg hat; have hK : Kept (fun k => ao2 = some ⟨k, 0, none⟩) (V.alloc (.cells #[.string n, .int .i64 wt, .int .i64 cl, .bool co, .int .i64 fr, .int .i64 to, .int .i64 sx, .int .i64 sy, .int .i64 sz] 44)) wb := ⟨hK0.os, hK0.tape, hK0.output, hK0.size, hK0.block⟩; have HTb := hide ((unhide HT).app (unhide HPP) hL hK hat); have HO1b := hide ((OwnV.alloc (unhide HO1) (.cells #[.string n, .int .i64 wt, .int .i64 cl, .bool co, .int .i64 fr, .int .i64 to, .int .i64 sx, .int .i64 sy, .int .i64 sz] 44)).kept hK (unhide HN1)); have HXb := hide ((OwnV.alloc (unhide HX) (.cells #[.string n, .int .i64 wt, .int .i64 cl, .bool co, .int .i64 fr, .int .i64 to, .int .i64 sx, .int .i64 sy, .int .i64 sz] 44)).kept hK (unhide HNE)); have q1 := (unhide HO1b).cell (i := 0) rfl; have q1f := (unhide HO1b).frozen 0; have q4 := ((unhide HTb).bel.cell (lt_of_cell (unhide HC4))).trans (unhide HC4); have qb0 := ((unhide HTb).bel.cell (lt_of_cell (unhide HBC0))).trans (unhide HBC0); have qb1 := ((unhide HTb).bel.cell (lt_of_cell (unhide HBC1))).trans (unhide HBC1); have qb2 := ((unhide HTb).bel.cell (lt_of_cell (unhide HBC2))).trans (unhide HBC2); have qb3 := ((unhide HTb).bel.cell (lt_of_cell (unhide HBC3))).trans (unhide HBC3); have qb4 := ((unhide HTb).bel.cell (lt_of_cell (unhide HBC4))).trans (unhide HBC4); have qb5 := ((unhide HTb).bel.cell (lt_of_cell (unhide HBC5))).trans (unhide HBC5); have qs0 := (unhide HXb).cell (i := 0) rfl; have qs1 := (unhide HXb).cell (i := 1) rfl; have qs2 := (unhide HXb).cell (i := 2) rfl; have z4 := cell_setOther wb (p := ⟨p1, 0, none⟩) (q := ⟨p4, 0, none⟩) (show p1 ≠ p4 by omega) (.slice (some ⟨g3, 0, none⟩) (W.length + 1) cap3) q4; have zb0 := cell_setOther wb (p := ⟨p1, 0, none⟩) (q := ⟨bb, bO' + W.length * 6, none⟩) (show p1 ≠ bb by omega) (.slice (some ⟨g3, 0, none⟩) (W.length + 1) cap3) qb0; have zb1 := cell_setOther wb (p := ⟨p1, 0, none⟩) (q := ⟨bb, bO' + W.length * 6 + 1, none⟩) (show p1 ≠ bb by omega) (.slice (some ⟨g3, 0, none⟩) (W.length + 1) cap3) qb1; have zb2 := cell_setOther wb (p := ⟨p1, 0, none⟩) (q := ⟨bb, bO' + W.length * 6 + 2, none⟩) (show p1 ≠ bb by omega) (.slice (some ⟨g3, 0, none⟩) (W.length + 1) cap3) qb2; have zb3 := cell_setOther wb (p := ⟨p1, 0, none⟩) (q := ⟨bb, bO' + W.length * 6 + 3, none⟩) (show p1 ≠ bb by omega) (.slice (some ⟨g3, 0, none⟩) (W.length + 1) cap3) qb3; have zb4 := cell_setOther wb (p := ⟨p1, 0, none⟩) (q := ⟨bb, bO' + W.length * 6 + 4, none⟩) (show p1 ≠ bb by omega) (.slice (some ⟨g3, 0, none⟩) (W.length + 1) cap3) qb4; have zb5 := cell_setOther wb (p := ⟨p1, 0, none⟩) (q := ⟨bb, bO' + W.length * 6 + 5, none⟩) (show p1 ≠ bb by omega) (.slice (some ⟨g3, 0, none⟩) (W.length + 1) cap3) qb5; have zs0 := cell_setOther wb (p := ⟨p1, 0, none⟩) (q := ⟨gs, 0, none⟩) (show p1 ≠ gs by omega) (.slice (some ⟨g3, 0, none⟩) (W.length + 1) cap3) qs0; have zs1 := cell_setOther wb (p := ⟨p1, 0, none⟩) (q := ⟨gs, 1, none⟩) (show p1 ≠ gs by omega) (.slice (some ⟨g3, 0, none⟩) (W.length + 1) cap3) qs1; have zs2 := cell_setOther wb (p := ⟨p1, 0, none⟩) (q := ⟨gs, 2, none⟩) (show p1 ≠ gs by omega) (.slice (some ⟨g3, 0, none⟩) (W.length + 1) cap3) qs2; clear hL hK0 hK hat hBg)
                    refine hK.out _ _ ?_ (fun hHeld => ?_)
                    · exact ⟨q4, qb0, qb1, qb2, qb3, qb4, qb5, qs0, qs1, qs2⟩
                    try simp only [Act.put, List.setIfInBounds_toArray, List.set_cons_zero, List.set_cons_succ]
                    refine wpAnyH_ready (rs := [10]) (by kernel_rfl) (by simp) ?_
                    refine AllReadyH.cons rfl (fun K hK => ?_) ?_
                    · go_simp
                      refine hK.out _ _ ?_ (fun hHeld => ?_)
                      · exact ⟨z4, zb0, zb1, zb2, zb3, zb4, zb5, zs0, zs1, zs2⟩
                      try simp only [Act.put, List.setIfInBounds_toArray, List.set_cons_zero, List.set_cons_succ]
                      refine wpAnyH_done (by kernel_rfl) ?_ _
                      have HTc := hide ((unhide HTb).set1 (unhide HPP) (.slice (some ⟨g3, 0, none⟩) (W.length + 1) cap3))
                      have HOc : Hid (OwnV (wb.setCell ⟨p1, 0, none⟩ (.slice (some ⟨g3, 0, none⟩) (W.length + 1) cap3)) p1 [(.slice (some ⟨g3, 0, none⟩) (W.length + 1) cap3)]) := (unhide HO1b).set 0 (.slice (some ⟨g3, 0, none⟩) (W.length + 1) cap3) (by simp)
                      generalize wb.setCell ⟨p1, 0, none⟩ (.slice (some ⟨g3, 0, none⟩) (W.length + 1) cap3) = wc at *
                      clear hHeld q1 q1f q4 qb0 qb1 qb2 qb3 qb4 qb5 qs0 qs1 qs2 z4 zb0 zb1 zb2 zb3 zb4 zb5 zs0 zs1 zs2 HTb HO1b HXb c1 c4 b0c b1c b2c b3c b4c b5c x0 x1 x2 HBC0 HBC1 HBC2 HBC3 HBC4 HBC5 HT HO1 HX
                      have hln : (W ++ [(n, wt, cl, co, fr, to, sx, sy, sz)]).length = W.length + 1 := by simp
                      have QI := unhide IHH (W ++ [(n, wt, cl, co, fr, to, sx, sy, sz)]) A2 hs2 (some ⟨g3, 0, none⟩) cap3 bo2 bc2 wc (by rw [hln]; have := unhide HLEN; omega) (fun j hj => by
                        have h1 := unhide HALL (j + 1) (by simp; omega)
                        rw [hln, show W.length + 1 + j = W.length + (j + 1) by omega, h1]
                        rfl) hA5' (unhide HTc) (by rw [hln]; exact unhide HOc)
                      replace QI := hide QI
                      have c6 := (unhide HTc).o6.cell (i := 0) rfl
                      clear HOc
                      go_wp2_with fail
                      refine (unhide QI).mono ?_
                      rintro e w5 ⟨rfl, hpost⟩
                      obtain ⟨A5, hs5, ao5, cap5, bo5, bc5, EA5, hT5, hO5⟩ := tryAns_out hpost
                      clear hpost
                      rw [hln] at hO5
                      obtain ⟨g5, e5, hc5⟩ : ∃ g, ao5 = some ⟨g, 0, none⟩ ∧ W.length + 1 ≤ cap5 := by
                        rcases hT5.row.parts (by decide) with ⟨_, h0, _⟩ | ⟨g, e, _, _, hc, _⟩
                        · rw [hln] at h0; omega
                        · rw [hln] at hc; exact ⟨g, e, hc⟩
                      subst e5
                      have c1 := hO5.cell (i := 0) rfl
                      have f1 := hO5.frozen 0
                      have HT6 := hide (hT5.front.set1 (unhide HPP) (.slice (some ⟨g5, 0, none⟩) W.length cap5))
                      have HO6 : Hid (OwnV (w5.setCell ⟨p1, 0, none⟩ (.slice (some ⟨g5, 0, none⟩) W.length cap5)) p1 [.slice (some ⟨g5, 0, none⟩) W.length cap5]) := hO5.set 0 (.slice (some ⟨g5, 0, none⟩) W.length cap5) (by simp)
                      have hcc : W.length ≤ cap5 := by omega
                      have hcci : (W.length : Int) ≤ cap5 := by omega
                      clear hT5 hO5 QI HTc c6 hln
                      go_wp2
                      go_roundg (S.length - (i + 1))
                      case measure => omega
                      case rel => exact ⟨i + 1, A5, hs5, some ⟨g5, 0, none⟩, cap5, bo5, bc5, by omega, rfl, by go_num, EA5.trans (unhide ET).symm, unhide HT6, unhide HO6⟩
                    exact AllReadyH.nil
                  exact AllReadyH.nil
                exact AllReadyH.nil
              refine AllReadyH.cons rfl (fun K hK => ?_) ?_
              · go_simp
                refine hK.out _ _ ?_ (fun hHeld => ?_)
                · go_keep
                try simp only [Act.put, List.setIfInBounds_toArray, List.set_cons_zero, List.set_cons_succ]
                refine wpAnyH_ready (rs := [0]) (by kernel_rfl) (by simp) ?_
                refine AllReadyH.cons rfl (fun K hK => ?_) ?_
                · go_simp
                  refine hK.out _ _ ?_ (fun hHeld => ?_)
                  · go_keep
                  try simp only [Act.put, List.setIfInBounds_toArray, List.set_cons_zero, List.set_cons_succ]
                  refine wpAnyH_ready (rs := [9]) (by kernel_rfl) (by simp) ?_
                  refine AllReadyH.cons rfl (fun K hK => ?_) ?_
                  · first | (refine step_appRow tyStow _ (by rfl) (.tmp 53) (.tmp 61) (by rfl) M ao2 W.length cap2 W (by rfl) (((unhide HT).row).below (Below.alloc1 V (.cells #[.string n, .int .i64 wt, .int .i64 cl, .bool co, .int .i64 fr, .int .i64 to, .int .i64 sx, .int .i64 sy, .int .i64 sz] 44))) (Nat.le_trans (unhide HT).msz (by simp)) (by omega) V.heap.size (n, wt, cl, co, fr, to, sx, sy, sz) 1 (by rfl) ((ownV_alloc V #[.string n, .int .i64 wt, .int .i64 cl, .bool co, .int .i64 fr, .int .i64 to, .int .i64 sx, .int .i64 sy, .int .i64 sz] 44)) ?_; intro g3 cap3 wb hL hK0 hBg hat; have hK : Kept (fun k => ao2 = some ⟨k, 0, none⟩) (V.alloc (.cells #[.string n, .int .i64 wt, .int .i64 cl, .bool co, .int .i64 fr, .int .i64 to, .int .i64 sx, .int .i64 sy, .int .i64 sz] 44)) wb := ⟨hK0.os, hK0.tape, hK0.output, hK0.size, hK0.block⟩; have HTb := hide ((unhide HT).app (unhide HPP) hL hK hat); have HO1b := hide ((OwnV.alloc (unhide HO1) (.cells #[.string n, .int .i64 wt, .int .i64 cl, .bool co, .int .i64 fr, .int .i64 to, .int .i64 sx, .int .i64 sy, .int .i64 sz] 44)).kept hK (unhide HN1)); have HXb := hide ((OwnV.alloc (unhide HX) (.cells #[.string n, .int .i64 wt, .int .i64 cl, .bool co, .int .i64 fr, .int .i64 to, .int .i64 sx, .int .i64 sy, .int .i64 sz] 44)).kept hK (unhide HNE)); have q1 := (unhide HO1b).cell (i := 0) rfl; have q1f := (unhide HO1b).frozen 0; have q4 := ((unhide HTb).bel.cell (lt_of_cell (unhide HC4))).trans (unhide HC4); have qb0 := ((unhide HTb).bel.cell (lt_of_cell (unhide HBC0))).trans (unhide HBC0); have qb1 := ((unhide HTb).bel.cell (lt_of_cell (unhide HBC1))).trans (unhide HBC1); have qb2 := ((unhide HTb).bel.cell (lt_of_cell (unhide HBC2))).trans (unhide HBC2); have qb3 := ((unhide HTb).bel.cell (lt_of_cell (unhide HBC3))).trans (unhide HBC3); have qb4 := ((unhide HTb).bel.cell (lt_of_cell (unhide HBC4))).trans (unhide HBC4); have qb5 := ((unhide HTb).bel.cell (lt_of_cell (unhide HBC5))).trans (unhide HBC5); have qs0 := (unhide HXb).cell (i := 0) rfl; have qs1 := (unhide HXb).cell (i := 1) rfl; have qs2 := (unhide HXb).cell (i := 2) rfl; have z4 := cell_setOther wb (p := ⟨p1, 0, none⟩) (q := ⟨p4, 0, none⟩) (show p1 ≠ p4 by omega) (.slice (some ⟨g3, 0, none⟩) (W.length + 1) cap3) q4; have zb0 := cell_setOther wb (p := ⟨p1, 0, none⟩) (q := ⟨bb, bO' + W.length * 6, none⟩) (show p1 ≠ bb by omega) (.slice (some ⟨g3, 0, none⟩) (W.length + 1) cap3) qb0; have zb1 := cell_setOther wb (p := ⟨p1, 0, none⟩) (q := ⟨bb, bO' + W.length * 6 + 1, none⟩) (show p1 ≠ bb by omega) (.slice (some ⟨g3, 0, none⟩) (W.length + 1) cap3) qb1; have zb2 := cell_setOther wb (p := ⟨p1, 0, none⟩) (q := ⟨bb, bO' + W.length * 6 + 2, none⟩) (show p1 ≠ bb by omega) (.slice (some ⟨g3, 0, none⟩) (W.length + 1) cap3) qb2; have zb3 := cell_setOther wb (p := ⟨p1, 0, none⟩) (q := ⟨bb, bO' + W.length * 6 + 3, none⟩) (show p1 ≠ bb by omega) (.slice (some ⟨g3, 0, none⟩) (W.length + 1) cap3) qb3; have zb4 := cell_setOther wb (p := ⟨p1, 0, none⟩) (q := ⟨bb, bO' + W.length * 6 + 4, none⟩) (show p1 ≠ bb by omega) (.slice (some ⟨g3, 0, none⟩) (W.length + 1) cap3) qb4; have zb5 := cell_setOther wb (p := ⟨p1, 0, none⟩) (q := ⟨bb, bO' + W.length * 6 + 5, none⟩) (show p1 ≠ bb by omega) (.slice (some ⟨g3, 0, none⟩) (W.length + 1) cap3) qb5; have zs0 := cell_setOther wb (p := ⟨p1, 0, none⟩) (q := ⟨gs, 0, none⟩) (show p1 ≠ gs by omega) (.slice (some ⟨g3, 0, none⟩) (W.length + 1) cap3) qs0; have zs1 := cell_setOther wb (p := ⟨p1, 0, none⟩) (q := ⟨gs, 1, none⟩) (show p1 ≠ gs by omega) (.slice (some ⟨g3, 0, none⟩) (W.length + 1) cap3) qs1; have zs2 := cell_setOther wb (p := ⟨p1, 0, none⟩) (q := ⟨gs, 2, none⟩) (show p1 ≠ gs by omega) (.slice (some ⟨g3, 0, none⟩) (W.length + 1) cap3) qs2; clear hL hK0 hK hat hBg) | (refine step_appRow tyStow _ (by rfl) (.tmp 53) (.tmp 61) (by rfl) M ao2 W.length cap2 W (by rfl) (RowB.below (((unhide HT).row).below (Below.alloc1 V (.cells #[.string n, .int .i64 wt, .int .i64 cl, .bool co, .int .i64 fr, .int .i64 to, .int .i64 sx, .int .i64 sy, .int .i64 sz] 44))) (Below.refl _ _).drew) (Nat.le_trans (unhide HT).msz (by simp)) (by omega) V.heap.size (n, wt, cl, co, fr, to, sx, sy, sz) 1 (by rfl) ((ownV_alloc V #[.string n, .int .i64 wt, .int .i64 cl, .bool co, .int .i64 fr, .int .i64 to, .int .i64 sx, .int .i64 sy, .int .i64 sz] 44).drew) ?_; intro g3 cap3 wb hL hK0 hBg hat; have hK : Kept (fun k => ao2 = some ⟨k, 0, none⟩) (V.alloc (.cells #[.string n, .int .i64 wt, .int .i64 cl, .bool co, .int .i64 fr, .int .i64 to, .int .i64 sx, .int .i64 sy, .int .i64 sz] 44)) wb := ⟨hK0.os, hK0.tape, hK0.output, hK0.size, hK0.block⟩; have HTb := hide ((unhide HT).app (unhide HPP) hL hK hat); have HO1b := hide ((OwnV.alloc (unhide HO1) (.cells #[.string n, .int .i64 wt, .int .i64 cl, .bool co, .int .i64 fr, .int .i64 to, .int .i64 sx, .int .i64 sy, .int .i64 sz] 44)).kept hK (unhide HN1)); have HXb := hide ((OwnV.alloc (unhide HX) (.cells #[.string n, .int .i64 wt, .int .i64 cl, .bool co, .int .i64 fr, .int .i64 to, .int .i64 sx, .int .i64 sy, .int .i64 sz] 44)).kept hK (unhide HNE)); have q1 := (unhide HO1b).cell (i := 0) rfl; have q1f := (unhide HO1b).frozen 0; have q4 := ((unhide HTb).bel.cell (lt_of_cell (unhide HC4))).trans (unhide HC4); have qb0 := ((unhide HTb).bel.cell (lt_of_cell (unhide HBC0))).trans (unhide HBC0); have qb1 := ((unhide HTb).bel.cell (lt_of_cell (unhide HBC1))).trans (unhide HBC1); have qb2 := ((unhide HTb).bel.cell (lt_of_cell (unhide HBC2))).trans (unhide HBC2); have qb3 := ((unhide HTb).bel.cell (lt_of_cell (unhide HBC3))).trans (unhide HBC3); have qb4 := ((unhide HTb).bel.cell (lt_of_cell (unhide HBC4))).trans (unhide HBC4); have qb5 := ((unhide HTb).bel.cell (lt_of_cell (unhide HBC5))).trans (unhide HBC5); have qs0 := (unhide HXb).cell (i := 0) rfl; have qs1 := (unhide HXb).cell (i := 1) rfl; have qs2 := (unhide HXb).cell (i := 2) rfl; have z4 := cell_setOther wb (p := ⟨p1, 0, none⟩) (q := ⟨p4, 0, none⟩) (show p1 ≠ p4 by omega) (.slice (some ⟨g3, 0, none⟩) (W.length + 1) cap3) q4; have zb0 := cell_setOther wb (p := ⟨p1, 0, none⟩) (q := ⟨bb, bO' + W.length * 6, none⟩) (show p1 ≠ bb by omega) (.slice (some ⟨g3, 0, none⟩) (W.length + 1) cap3) qb0; have zb1 := cell_setOther wb (p := ⟨p1, 0, none⟩) (q := ⟨bb, bO' + W.length * 6 + 1, none⟩) (show p1 ≠ bb by omega) (.slice (some ⟨g3, 0, none⟩) (W.length + 1) cap3) qb1; have zb2 := cell_setOther wb (p := ⟨p1, 0, none⟩) (q := ⟨bb, bO' + W.length * 6 + 2, none⟩) (show p1 ≠ bb by omega) (.slice (some ⟨g3, 0, none⟩) (W.length + 1) cap3) qb2; have zb3 := cell_setOther wb (p := ⟨p1, 0, none⟩) (q := ⟨bb, bO' + W.length * 6 + 3, none⟩) (show p1 ≠ bb by omega) (.slice (some ⟨g3, 0, none⟩) (W.length + 1) cap3) qb3; have zb4 := cell_setOther wb (p := ⟨p1, 0, none⟩) (q := ⟨bb, bO' + W.length * 6 + 4, none⟩) (show p1 ≠ bb by omega) (.slice (some ⟨g3, 0, none⟩) (W.length + 1) cap3) qb4; have zb5 := cell_setOther wb (p := ⟨p1, 0, none⟩) (q := ⟨bb, bO' + W.length * 6 + 5, none⟩) (show p1 ≠ bb by omega) (.slice (some ⟨g3, 0, none⟩) (W.length + 1) cap3) qb5; have zs0 := cell_setOther wb (p := ⟨p1, 0, none⟩) (q := ⟨gs, 0, none⟩) (show p1 ≠ gs by omega) (.slice (some ⟨g3, 0, none⟩) (W.length + 1) cap3) qs0; have zs1 := cell_setOther wb (p := ⟨p1, 0, none⟩) (q := ⟨gs, 1, none⟩) (show p1 ≠ gs by omega) (.slice (some ⟨g3, 0, none⟩) (W.length + 1) cap3) qs1; have zs2 := cell_setOther wb (p := ⟨p1, 0, none⟩) (q := ⟨gs, 2, none⟩) (show p1 ≠ gs by omega) (.slice (some ⟨g3, 0, none⟩) (W.length + 1) cap3) qs2; clear hL hK0 hK hat hBg)
                    refine hK.out _ _ ?_ (fun hHeld => ?_)
                    · exact ⟨q4, qb0, qb1, qb2, qb3, qb4, qb5, qs0, qs1, qs2⟩
                    try simp only [Act.put, List.setIfInBounds_toArray, List.set_cons_zero, List.set_cons_succ]
                    refine wpAnyH_ready (rs := [10]) (by kernel_rfl) (by simp) ?_
                    refine AllReadyH.cons rfl (fun K hK => ?_) ?_
                    · go_simp
                      refine hK.out _ _ ?_ (fun hHeld => ?_)
                      · exact ⟨z4, zb0, zb1, zb2, zb3, zb4, zb5, zs0, zs1, zs2⟩
                      try simp only [Act.put, List.setIfInBounds_toArray, List.set_cons_zero, List.set_cons_succ]
                      refine wpAnyH_done (by kernel_rfl) ?_ _
                      have HTc := hide ((unhide HTb).set1 (unhide HPP) (.slice (some ⟨g3, 0, none⟩) (W.length + 1) cap3))
                      have HOc : Hid (OwnV (wb.setCell ⟨p1, 0, none⟩ (.slice (some ⟨g3, 0, none⟩) (W.length + 1) cap3)) p1 [(.slice (some ⟨g3, 0, none⟩) (W.length + 1) cap3)]) := (unhide HO1b).set 0 (.slice (some ⟨g3, 0, none⟩) (W.length + 1) cap3) (by simp)
                      generalize wb.setCell ⟨p1, 0, none⟩ (.slice (some ⟨g3, 0, none⟩) (W.length + 1) cap3) = wc at *
                      clear hHeld q1 q1f q4 qb0 qb1 qb2 qb3 qb4 qb5 qs0 qs1 qs2 z4 zb0 zb1 zb2 zb3 zb4 zb5 zs0 zs1 zs2 HTb HO1b HXb c1 c4 b0c b1c b2c b3c b4c b5c x0 x1 x2 HBC0 HBC1 HBC2 HBC3 HBC4 HBC5 HT HO1 HX
                      have hln : (W ++ [(n, wt, cl, co, fr, to, sx, sy, sz)]).length = W.length + 1 := by simp
                      have QI := unhide IHH (W ++ [(n, wt, cl, co, fr, to, sx, sy, sz)]) A2 hs2 (some ⟨g3, 0, none⟩) cap3 bo2 bc2 wc (by rw [hln]; have := unhide HLEN; omega) (fun j hj => by
                        have h1 := unhide HALL (j + 1) (by simp; omega)
                        rw [hln, show W.length + 1 + j = W.length + (j + 1) by omega, h1]
                        rfl) hA5' (unhide HTc) (by rw [hln]; exact unhide HOc)
                      replace QI := hide QI
                      have c6 := (unhide HTc).o6.cell (i := 0) rfl
                      clear HOc
                      go_wp2_with fail
                      refine (unhide QI).mono ?_
                      rintro e w5 ⟨rfl, hpost⟩
                      obtain ⟨A5, hs5, ao5, cap5, bo5, bc5, EA5, hT5, hO5⟩ := tryAns_out hpost
                      clear hpost
                      rw [hln] at hO5
                      obtain ⟨g5, e5, hc5⟩ : ∃ g, ao5 = some ⟨g, 0, none⟩ ∧ W.length + 1 ≤ cap5 := by
                        rcases hT5.row.parts (by decide) with ⟨_, h0, _⟩ | ⟨g, e, _, _, hc, _⟩
                        · rw [hln] at h0; omega
                        · rw [hln] at hc; exact ⟨g, e, hc⟩
                      subst e5
                      have c1 := hO5.cell (i := 0) rfl
                      have f1 := hO5.frozen 0
                      have HT6 := hide (hT5.front.set1 (unhide HPP) (.slice (some ⟨g5, 0, none⟩) W.length cap5))
                      have HO6 : Hid (OwnV (w5.setCell ⟨p1, 0, none⟩ (.slice (some ⟨g5, 0, none⟩) W.length cap5)) p1 [.slice (some ⟨g5, 0, none⟩) W.length cap5]) := hO5.set 0 (.slice (some ⟨g5, 0, none⟩) W.length cap5) (by simp)
                      have hcc : W.length ≤ cap5 := by omega
                      have hcci : (W.length : Int) ≤ cap5 := by omega
                      clear hT5 hO5 QI HTc c6 hln
                      go_wp2
                      go_roundg (S.length - (i + 1))
                      case measure => omega
                      case rel => exact ⟨i + 1, A5, hs5, some ⟨g5, 0, none⟩, cap5, bo5, bc5, by omega, rfl, by go_num, EA5.trans (unhide ET).symm, unhide HT6, unhide HO6⟩
                    exact AllReadyH.nil
                  exact AllReadyH.nil
                exact AllReadyH.nil
              exact AllReadyH.nil
            exact AllReadyH.nil
        · have hie : i = S.length := by omega
          subst hie
          have E : Hid ((A2, hs2) = tryF H S (b0 :: bs) W (A, false)) := (unhide EA).trans (unhide EG).symm
          have hii : ¬ (S.length : Int) < S.length := by omega
          clear EG EA
          go_wp2
          go_end0
          exact ⟨rfl, tryAns_mk (unhide E) (unhide HT) (unhide HO1)⟩

set_option maxRecDepth 10000 in
set_option maxHeartbeats 25600000 in
theorem implFewest_any (v0 v1 : Value) (H : List HatchT) (L : List BoxT) (w : World) (h0 : RHatch w v0 H) (h1 : RBox w v1 L) :
    Calls Try.prog 22 #[v0, v1] w fun e w' => ∃ a n cp, e = .returned (.tuple #[.slice a n cp, .bool (fewV H L).2]) ∧ OwnR 9 eStow w.heap.size w' (.slice a n cp) (fewV H L).1 ∧ Below w.heap.size w w' := by
  have HRH := hide h0
  have HRX := hide h1
  obtain ⟨ho, hcap, rfl, hhl, hhm, hhc⟩ := h0
  obtain ⟨xo, xcap, rfl, hl, hm, hc⟩ := h1
  unfold maxLen at hm hhm
  clear hc hhc
  have hmf : ∀ (fn : Fn) (first cap : Array Value) (w : World), (Instr.makeFunc fn first cap).run Try.prog w = .ok (.func fn first cap) w := fun _ _ _ _ => rfl
  have ENot : Hid (hatB H = false ∨ stwB L = false ∨ 8 < (spots H).length → fewV H L = ([], false)) := fewV_not
  have EGo : Hid (hatB H = true → stwB L = true → (spots H).length ≤ 8 → fewV H L = tryF H (spots H) L [] ([], false)) := fun h1 h2 h3 => by rw [try_seek]; exact fewV_go h1 h2 h3
  have EL5 : Hid (stwB L = true → L.length ≤ 5) := stwB_len
  have Q0 := hide fun V (h : RHatch V (.slice ho H.length hcap) H) => implHatchesOk_any _ H V h
  have Q1 := hide fun V (h : RBox V (.slice xo L.length xcap) L) => areStowable_any _ L V h
  have Q2 := hide fun V (h : RHatch V (.slice ho H.length hcap) H) hh => spotsOf_any _ H V h hh
  obtain ⟨hb, ehb⟩ : ∃ b, b = hatB H := ⟨_, rfl⟩
  have EHB := hide ehb
  rw [← ehb] at ENot EGo Q0
  generalize stwB L = sb at *
  clear ehb
  obtain ⟨V0, eV⟩ : ∃ V, V = (w.alloc (.cells #[.slice ho H.length hcap] 32)).alloc (.cells #[.slice xo L.length xcap] 45) := ⟨_, rfl⟩
  have HW : Hid (Below w.heap.size w V0) := by show Below _ _ _; rw [eV]; exact Below.step (Below.alloc1 _ _) (Below.alloc1 _ _)
  have HB3 : Hid (OwnV V0 w.heap.size [.slice ho H.length hcap]) := by show OwnV _ _ _; rw [eV]; exact OwnV.alloc (ownV_alloc w #[.slice ho H.length hcap] 32) _
  have HB4 : Hid (OwnV V0 (w.heap.size + 1) [.slice xo L.length xcap]) := by
    show OwnV _ _ _
    rw [eV]
    have h := ownV_alloc (w.alloc (.cells #[.slice ho H.length hcap] 32)) #[.slice xo L.length xcap] 45
    simp only [World.size_alloc] at h
    exact h
  have c3 := (unhide HB3).cell (i := 0) rfl
  go_enter Try.func22, Try.ntmps22
  go_wp2_with fail
  rw [← eV]
  clear eV
  refine (unhide Q0 _ ((unhide HRH).below (unhide HW))).mono ?_
  rintro e w1 ⟨rfl, hb'⟩
  replace HW := hide (Below.step (unhide HW) hb')
  replace HB3 := hide ((unhide HB3).step hb')
  replace HB4 := hide ((unhide HB4).step hb')
  clear hb' Q0 c3
  cases hb with
  | false =>
    have E := hide (unhide ENot (Or.inl rfl))
    go_wp2
    refine bodyPost_ret (v := .tuple #[.slice none 0 0, .bool false]) (by simp [results, Try.results22, go_sem]) rfl ⟨none, 0, 0, by rw [unhide E], by rw [unhide E]; exact ⟨none, 0, rfl, Nat.le_refl _, Nat.zero_le _, fun h => absurd rfl h⟩, unhide HW⟩
  | true =>
  have c4 := (unhide HB4).cell (i := 0) rfl
  go_wp2_with fail
  refine (unhide Q1 _ ((unhide HRX).below (unhide HW))).mono ?_
  rintro e w2 ⟨rfl, hb'⟩
  replace HW := hide (Below.step (unhide HW) hb')
  replace HB3 := hide ((unhide HB3).step hb')
  replace HB4 := hide ((unhide HB4).step hb')
  clear hb' Q1 c4
  cases sb with
  | false =>
    have E := hide (unhide ENot (Or.inr (Or.inl rfl)))
    go_wp2
    refine bodyPost_ret (v := .tuple #[.slice none 0 0, .bool false]) (by simp [results, Try.results22, go_sem]) rfl ⟨none, 0, 0, by rw [unhide E], by rw [unhide E]; exact ⟨none, 0, rfl, Nat.le_refl _, Nat.zero_le _, fun h => absurd rfl h⟩, unhide HW⟩
  | true =>
  have hl5 := unhide EL5 rfl
  replace EGo := hide (unhide EGo (by first | rfl | trivial) (by first | rfl | trivial))
  have c3 := (unhide HB3).cell (i := 0) rfl
  go_wp2_with fail
  refine (unhide Q2 _ ((unhide HRH).below (unhide HW)) (unhide EHB).symm).mono ?_
  rintro e U ⟨po, ms, pcap, rfl, hrow, hb'⟩
  have HROW := hide hrow
  have HR3 := hide (hrow.recs (by decide))
  have hml : ms = (spots H).length := by
    obtain ⟨_, _, e, _⟩ := unhide HR3
    simp only [Value.slice.injEq] at e
    exact e.2.1
  replace HW := hide (Below.step (unhide HW) hb')
  replace HB3 := hide ((unhide HB3).step hb')
  replace HB4 := hide ((unhide HB4).step hb')
  clear hrow hb' Q2 c3 EL5 HROW EHB
  generalize spots H = S at *
  subst hml
  by_cases h8 : 8 < S.length
  · have h8i : (8 : Int) < S.length := by omega
    have E := hide (unhide ENot (Or.inr (Or.inr h8)))
    replace HW := hide (Below.step (unhide HW) (Below.alloc1 U (.cells #[.slice po S.length pcap] 104)))
    go_wp2
    refine bodyPost_ret (v := .tuple #[.slice none 0 0, .bool false]) (by simp [results, Try.results22, go_sem]) rfl ⟨none, 0, 0, by rw [unhide E], by rw [unhide E]; exact ⟨none, 0, rfl, Nat.le_refl _, Nat.zero_le _, fun h => absurd rfl h⟩, unhide HW⟩
  have h8i : ¬ (8 : Int) < S.length := by omega
  have EG := hide (unhide EGo (by omega))
  clear ENot EGo h8
  have e5 := ownV_alloc U #[.slice po S.length pcap] 104
  have e1 := ownV_alloc (U.alloc (.cells #[.slice po S.length pcap] 104)) #[.slice none 0 0] 33
  have e2 := ownV_alloc ((U.alloc (.cells #[.slice po S.length pcap] 104)).alloc (.cells #[.slice none 0 0] 33)) #[.slice none 0 0] 33
  have e0 := ownV_alloc (((U.alloc (.cells #[.slice po S.length pcap] 104)).alloc (.cells #[.slice none 0 0] 33)).alloc (.cells #[.slice none 0 0] 33)) #[.bool false] 4
  have e6 := ownV_alloc ((((U.alloc (.cells #[.slice po S.length pcap] 104)).alloc (.cells #[.slice none 0 0] 33)).alloc (.cells #[.slice none 0 0] 33)).alloc (.cells #[.bool false] 4)) #[(.func (.func 77) #[] #[.pointer (some ⟨U.heap.size + 1 + 1 + 1, 0, none⟩), .pointer (some ⟨U.heap.size + 1, 0, none⟩), .pointer (some ⟨U.heap.size + 1 + 1, 0, none⟩), .pointer (some ⟨w.heap.size, 0, none⟩), .pointer (some ⟨w.heap.size + 1, 0, none⟩), .pointer (some ⟨U.heap.size, 0, none⟩), .pointer (some ⟨U.heap.size + 1 + 1 + 1 + 1, 0, none⟩)])] 1
  simp only [World.size_alloc] at e1 e2 e0 e6
  have HE5 := hide ((((e5.alloc (.cells #[.slice none 0 0] 33)).alloc (.cells #[.slice none 0 0] 33)).alloc (.cells #[.bool false] 4)).alloc (.cells #[(.func (.func 77) #[] #[.pointer (some ⟨U.heap.size + 1 + 1 + 1, 0, none⟩), .pointer (some ⟨U.heap.size + 1, 0, none⟩), .pointer (some ⟨U.heap.size + 1 + 1, 0, none⟩), .pointer (some ⟨w.heap.size, 0, none⟩), .pointer (some ⟨w.heap.size + 1, 0, none⟩), .pointer (some ⟨U.heap.size, 0, none⟩), .pointer (some ⟨U.heap.size + 1 + 1 + 1 + 1, 0, none⟩)])] 1))
  have HE1 := hide (((e1.alloc (.cells #[.slice none 0 0] 33)).alloc (.cells #[.bool false] 4)).alloc (.cells #[(.func (.func 77) #[] #[.pointer (some ⟨U.heap.size + 1 + 1 + 1, 0, none⟩), .pointer (some ⟨U.heap.size + 1, 0, none⟩), .pointer (some ⟨U.heap.size + 1 + 1, 0, none⟩), .pointer (some ⟨w.heap.size, 0, none⟩), .pointer (some ⟨w.heap.size + 1, 0, none⟩), .pointer (some ⟨U.heap.size, 0, none⟩), .pointer (some ⟨U.heap.size + 1 + 1 + 1 + 1, 0, none⟩)])] 1))
  have HE2 := hide ((e2.alloc (.cells #[.bool false] 4)).alloc (.cells #[(.func (.func 77) #[] #[.pointer (some ⟨U.heap.size + 1 + 1 + 1, 0, none⟩), .pointer (some ⟨U.heap.size + 1, 0, none⟩), .pointer (some ⟨U.heap.size + 1 + 1, 0, none⟩), .pointer (some ⟨w.heap.size, 0, none⟩), .pointer (some ⟨w.heap.size + 1, 0, none⟩), .pointer (some ⟨U.heap.size, 0, none⟩), .pointer (some ⟨U.heap.size + 1 + 1 + 1 + 1, 0, none⟩)])] 1))
  have HE0 := hide (e0.alloc (.cells #[(.func (.func 77) #[] #[.pointer (some ⟨U.heap.size + 1 + 1 + 1, 0, none⟩), .pointer (some ⟨U.heap.size + 1, 0, none⟩), .pointer (some ⟨U.heap.size + 1 + 1, 0, none⟩), .pointer (some ⟨w.heap.size, 0, none⟩), .pointer (some ⟨w.heap.size + 1, 0, none⟩), .pointer (some ⟨U.heap.size, 0, none⟩), .pointer (some ⟨U.heap.size + 1 + 1 + 1 + 1, 0, none⟩)])] 1))
  have HE6 := hide e6
  have HBU := hide (Below.step (Below.step (Below.step (Below.step (Below.alloc1 U (.cells #[.slice po S.length pcap] 104)) (Below.alloc1 _ (.cells #[.slice none 0 0] 33))) (Below.alloc1 _ (.cells #[.slice none 0 0] 33))) (Below.alloc1 _ (.cells #[.bool false] 4))) (Below.alloc1 _ (.cells #[(.func (.func 77) #[] #[.pointer (some ⟨U.heap.size + 1 + 1 + 1, 0, none⟩), .pointer (some ⟨U.heap.size + 1, 0, none⟩), .pointer (some ⟨U.heap.size + 1 + 1, 0, none⟩), .pointer (some ⟨w.heap.size, 0, none⟩), .pointer (some ⟨w.heap.size + 1, 0, none⟩), .pointer (some ⟨U.heap.size, 0, none⟩), .pointer (some ⟨U.heap.size + 1 + 1 + 1 + 1, 0, none⟩)])] 1)))
  have e7 := ownV_alloc ((((U.alloc (.cells #[.slice po S.length pcap] 104)).alloc (.cells #[.slice none 0 0] 33)).alloc (.cells #[.slice none 0 0] 33)).alloc (.cells #[.bool false] 4)) #[.nilFunc] 1
  simp only [World.size_alloc] at e7
  have c6 := e7.cell (i := 0) rfl
  have f6 := e7.frozen 0
  clear e5 e1 e2 e0 e6 e7
  have QT := hide (fewTry_any H L S U (U.heap.size + 1 + 1 + 1 + 1 + 1) (U.heap.size + 1 + 1 + 1) (U.heap.size + 1) (U.heap.size + 1 + 1) w.heap.size (w.heap.size + 1) U.heap.size (U.heap.size + 1 + 1 + 1 + 1) ho hcap xo xcap po pcap hl5 ⟨by omega, by omega, by omega, by omega, by omega, by omega⟩ ((unhide HRH).below (unhide HW)) ((unhide HRX).below (unhide HW)) (unhide HR3) ((unhide HB3).cell (i := 0) rfl) ((unhide HB4).cell (i := 0) rfl) L [] [] false none 0 none 0 _ (by simp) (fun i _ => by simp) (by simp) ⟨unhide HBU, by simp, unhide HE0, unhide HE2, unhide HE5, unhide HE6, rowB_nil _ _ _ _ _, ⟨none, 0, rfl, Nat.le_refl _, Nat.zero_le _, fun h => absurd rfl h⟩, (fun g e => nomatch e), (fun g e => nomatch e)⟩ (unhide HE1))
  have hwU := (unhide HW).size
  clear HE0 HE1 HE2 HE5 HE6 HBU
  go_wp2_with fail
  refine (unhide QT).mono ?_
  rintro e w5 ⟨rfl, hans⟩
  obtain ⟨A, hs, ao, cap, bo, bc, EA, hT, _⟩ := tryAns_out hans
  have E : Hid (fewV H L = (A, hs)) := (unhide EG).trans EA.symm
  have c2 := hT.o2.cell (i := 0) rfl
  have c0 := hT.o0.cell (i := 0) rfl
  have HOW := hide (hT.best.mono (B' := w.heap.size) (by omega))
  replace HW := hide (Below.step (unhide HW) hT.bel)
  clear hans hT EA EG QT c6 f6 HB3 HB4 HR3
  go_wp2
  go_quiet (fail)
  have hb : Below w5.heap.size w5 (w5.drewN nq) := ⟨rfl, rfl, rfl, Nat.le_refl _, fun _ _ => rfl⟩
  replace HOW := hide ((unhide HOW).below hb)
  replace HW := hide (Below.step (unhide HW) hb)
  clear hb c0 c2
  generalize w5.drewN nq = w6 at *
  go_wp2
  refine bodyPost_ret (v := .tuple #[.slice bo A.length bc, .bool hs]) (by simp [results, Try.results22, go_sem]) rfl ⟨_, _, _, by rw [unhide E], by rw [unhide E]; exact unhide HOW, unhide HW⟩

end Go.Proofs.Ytdkfleodgdpckaa
