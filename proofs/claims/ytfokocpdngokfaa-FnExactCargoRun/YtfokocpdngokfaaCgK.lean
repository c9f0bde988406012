/- The program's CargoStep. Written out, by hand at its head. -/
import Derived.Test.YtfokocpdngokfaaCgE
import Derived.Test.YtfokocpdngokfaaCgG
import Derived.Test.YtfokocpdngokfaaCgH
import Derived.Test.YtfokocpdngokfaaCgI
import Derived.Test.YtfokocpdngokfaaCgJ
import Derived.Test.YtfokocpdngokfaaCpTank
import Derived.FnLit
namespace Go.Proofs.Ytfokocpdngokfaa
open Go.RowKit

theorem cgOk_opI (L : List CargoTankT) (k a b m lean : Int) : cgOk L k a b m lean = (inB k 1 5 && (tksB L && (opI L.length k a b m && inB lean 0 100000000))) := by
  unfold cgOk
  cases hk : inB k 1 5 with
  | false =>
    have : cgOp L.length k a b m = false := by unfold cgOp; rw [hk]; rfl
    rw [this]
    simp
  | true =>
    rw [cgOp_opI hk, Bool.true_and, Bool.and_assoc]
theorem ArrT.recs {W : World} {g : Nat} {N : List CargoTankT} (h : ArrT W g (pad N)) (hN : N.length ≤ 12) : RCargoTank W (.slice (some ⟨g, 0, none⟩) N.length 12) N := by
  refine ⟨_, 12, rfl, hN, by unfold maxLen; omega, fun i hi => ⟨g, 0, rfl, fun j hj => ?_⟩⟩
  rw [Nat.zero_add]
  have := h.own.cell (recCells_get (j := j) (show i < (pad N).length by rw [h.2]; omega) hj)
  rw [show (pad N).getD i default = N.getD i default from pad_at N i] at this
  exact this
structure S4 (w W : World) (g1 ga : Nat) (M : List CargoTankT) (op : List Value) : Prop where
  below : Below w.heap.size w W
  o : OwnV W g1 op
  a : ArrT W ga M
theorem S4.step {w W W' : World} {g1 ga : Nat} {M : List CargoTankT} {op : List Value} (h : S4 w W g1 ga M op) (hb : Below W.heap.size W W') : S4 w W' g1 ga M op := ⟨Below.step h.below hb, h.o.step hb, h.a.step hb⟩
/-- A whole array stored into a new block. -/
theorem newArr (W : World) {M : List CargoTankT} (hM : M.length = 12) : ∃ V, (storeVar 76 ⟨W.heap.size, 0, none⟩ (.agg (arC M))).run Try.prog (W.alloc (.cells #[.int .i64 0, .int .i64 0, .int .i64 0, .int .i64 0, .int .i64 0, .int .i64 0, .int .i64 0, .int .i64 0, .int .i64 0, .int .i64 0, .int .i64 0, .int .i64 0, .int .i64 0, .int .i64 0, .int .i64 0, .int .i64 0, .int .i64 0, .int .i64 0, .int .i64 0, .int .i64 0, .int .i64 0, .int .i64 0, .int .i64 0, .int .i64 0, .int .i64 0, .int .i64 0, .int .i64 0, .int .i64 0, .int .i64 0, .int .i64 0, .int .i64 0, .int .i64 0, .int .i64 0, .int .i64 0, .int .i64 0, .int .i64 0, .int .i64 0, .int .i64 0, .int .i64 0, .int .i64 0, .int .i64 0, .int .i64 0, .int .i64 0, .int .i64 0, .int .i64 0, .int .i64 0, .int .i64 0, .int .i64 0, .int .i64 0, .int .i64 0, .int .i64 0, .int .i64 0, .int .i64 0, .int .i64 0, .int .i64 0, .int .i64 0, .int .i64 0, .int .i64 0, .int .i64 0, .int .i64 0] 76)) = .ok () V ∧ ArrT V W.heap.size M ∧ Below W.heap.size W V :=
  ⟨_, (arrT_zero W).store hM, (arrT_zero W).row hM, below_setRow' (Below.alloc1 _ _) (Nat.le_refl _) _⟩
theorem cf_filled (args : Array Value) (W : World) : (callFunc 63 args).run Try.prog W = .ok (.enter 63 args) W := by kernel_rfl
theorem cf_emptied (args : Array Value) (W : World) : (callFunc 64 args).run Try.prog W = .ok (.enter 64 args) W := by kernel_rfl
theorem cf_moved (args : Array Value) (W : World) : (callFunc 65 args).run Try.prog W = .ok (.enter 65 args) W := by kernel_rfl
theorem cf_inerted (args : Array Value) (W : World) : (callFunc 66 args).run Try.prog W = .ok (.enter 66 args) W := by kernel_rfl
theorem cf_vented (args : Array Value) (W : World) : (callFunc 67 args).run Try.prog W = .ok (.enter 67 args) W := by kernel_rfl

set_option maxRecDepth 100000 in
set_option maxHeartbeats 8000000 in
theorem implCargoStep_any (v : Value) (L : List CargoTankT) (k a b m lean : Int) (w : World) (h : RCargoTank w v L) (hn : L.length ≤ 1048576) :
    Calls Try.prog 12 #[v, vCargoOp k a b m, .int .i64 lean] w fun e w' => ∃ r n cp, e = .returned (.tuple #[.slice r n cp, .int .i64 (cgC L k a b m lean)]) ∧ OwnR 5 eCargoTank w.heap.size w' (.slice r n cp) (cgL L k a b m lean) ∧ Below w.heap.size w w' := by
  have HV := hide h
  obtain ⟨ao, cap, rfl, hl, hm, hc⟩ := h
  unfold maxLen at hm
  clear hc
  have HW := hide (Below.alloc1 w (.cells #[.int .i64 k, .int .i64 a, .int .i64 b, .int .i64 m] 31))
  have HO := hide (ownV_alloc w #[.int .i64 k, .int .i64 a, .int .i64 b, .int .i64 m] 31)
  obtain ⟨V, eV⟩ : ∃ z, z = w.alloc (.cells #[.int .i64 k, .int .i64 a, .int .i64 b, .int .i64 m] 31) := ⟨_, rfl⟩
  obtain ⟨g1, e1⟩ : ∃ z, z = w.heap.size := ⟨_, rfl⟩
  rw [← eV] at HW HO
  rw [← e1] at HO
  have HEQ := hide (cgOk_opI L k a b m lean)
  have HTK : Hid (tksB L = true → Tks L) := tksB_iff.1
  have HOP : Hid (inB k 1 5 = true → opI L.length k a b m = true → CgOp L.length k a b m) := fun h1 h2 => cgOp_parts ((cgOp_opI h1).trans h2)
  have QT := hide fun W hW => implTanksOk_any (.slice ao L.length cap) L W ((unhide HV).below hW)
  have QO := hide fun W => cargoOpOk_any (L.length : Int) k a b m W (by omega) (by omega)
  have QL := hide fun W => within_any lean 0 100000000 W
  have QC := hide fun W hW => ownCopyTank_any ao L.length cap L W ((unhide HV).below hW) hn
  have HL := hide fun W (bm : Nat) (hD : DeedM W bm) => look_deed hD k
  obtain ⟨fv, efv⟩ : ∃ fv, fv = (if k = 1 then fnV 63 else if k = 2 then fnV 64 else if k = 3 then fnV 65 else if k = 4 then fnV 66 else if k = 5 then fnV 67 else .nilFunc) := ⟨_, rfl⟩
  rw [← efv] at HL
  have EFV := hide efv
  clear efv
  have HBAD : Hid (cgOk L k a b m lean = false → ∀ W g, Below w.heap.size w W → w.heap.size ≤ g → OwnV W g (recCells 5 eCargoTank L) → ∃ r n cp, Ending.returned (.tuple #[.slice (some ⟨g, 0, none⟩) L.length L.length, .int .i64 1]) = .returned (.tuple #[.slice r n cp, .int .i64 (cgC L k a b m lean)]) ∧ OwnR 5 eCargoTank w.heap.size W (.slice r n cp) (cgL L k a b m lean) ∧ Below w.heap.size w W) := fun h W g hW hg ho => by
    have e := cgC_bad h
    refine ⟨_, _, _, by rw [e], ?_, hW⟩
    rw [cgL_bad (by rw [e]; omega)]
    exact ownR_copy ho hg hn
  generalize inB k 1 5 = kb at *
  generalize tksB L = tb at *
  generalize opI L.length k a b m = ob at *
  generalize inB lean 0 100000000 = lb at *
  unfold vCargoOp at QO ⊢
  go_enter Try.func12, Try.ntmps12
  go_upto_region 1 with (fail)
  rw [← eV, ← e1]
  have hB1 : w.heap.size ≤ g1 := by omega
  clear eV e1
  go_cut [8, 9] (fun s8 s9 wx => s8 = fv ∧ s9 = .bool kb ∧ Hid (Below w.heap.size w wx) ∧ Hid (OwnV wx g1 [.int .i64 k, .int .i64 a, .int .i64 b, .int .i64 m]))
  case first =>
    have hd : Below V.heap.size V V.drew := (Below.refl _ _).drew
    replace HW := hide (Below.step (unhide HW) hd)
    replace HO := hide ((unhide HO).step hd)
    clear hd
    have c0 := (unhide HO).cell (i := 0) rfl
    go_region_held3 (fun w' => w'.cell? ⟨g1, 0, none⟩ = some (.int .i64 k)) (go_keep) (first
      | (go_at_call 41; refine (cargoDeeds_any _).mono ?_; rintro e w1 ⟨bm, rfl, hD, hb⟩; replace HW := hide (Below.step (unhide HW) hb); replace HO := hide ((unhide HO).step hb); have hlk := unhide HL _ _ hD; clear hD hb c0; have c0 := (unhide HO).cell (i := 0) rfl))
    all_goals
      go_wp2_with fail
      go_meet
      exact ⟨rfl, rfl, unhide HW, unhide HO⟩
  case rest =>
  clear HW HO HL
  obtain ⟨h8, h9, HW, HO⟩ := hcut
  rw [h8, h9]
  clear h8 h9
  have c0 := (unhide HO).cell (i := 0) rfl
  have c1 := (unhide HO).cell (i := 1) rfl
  have c2 := (unhide HO).cell (i := 2) rfl
  have c3 := (unhide HO).cell (i := 3) rfl
  cases kb with
  | false =>
    have HF := hide (unhide HBAD (by rw [unhide HEQ]; first | rfl | simp))
    have hsz := (unhide HW).size
    clear HEQ HTK HOP QT QO QL
    go_wp2_with fail
    refine (unhide QC _ (unhide HW)).mono ?_
    rintro e w9 ⟨rfl, ho, hb⟩
    have HF2 := hide (unhide HF _ _ (Below.step (unhide HW) hb) hsz ho)
    clear ho hb HF
    go_wp2
    refine bodyPost_ret (v := .tuple #[.slice (some ⟨wc.heap.size, 0, none⟩) L.length L.length, .int .i64 1]) (by simp [results, Try.results12, go_sem]) rfl ?_
    exact unhide HF2
  | true =>
  go_wp2_with fail
  refine (unhide QT _ (unhide HW)).mono ?_
  rintro e w2 ⟨rfl, hb⟩
  replace HW := hide (Below.step (unhide HW) hb)
  replace HO := hide ((unhide HO).step hb)
  clear hb c0 c1 c2 c3
  have c0 := (unhide HO).cell (i := 0) rfl
  have c1 := (unhide HO).cell (i := 1) rfl
  have c2 := (unhide HO).cell (i := 2) rfl
  have c3 := (unhide HO).cell (i := 3) rfl
  cases tb with
  | false =>
    have HF := hide (unhide HBAD (by rw [unhide HEQ]; first | rfl | simp))
    have hsz := (unhide HW).size
    clear HEQ HTK HOP QT QO QL
    go_wp2_with fail
    refine (unhide QC _ (unhide HW)).mono ?_
    rintro e w9 ⟨rfl, ho, hb⟩
    have HF2 := hide (unhide HF _ _ (Below.step (unhide HW) hb) hsz ho)
    clear ho hb HF
    go_wp2
    refine bodyPost_ret (v := .tuple #[.slice (some ⟨w2.heap.size, 0, none⟩) L.length L.length, .int .i64 1]) (by simp [results, Try.results12, go_sem]) rfl ?_
    exact unhide HF2
  | true =>
  go_wp2_with fail
  refine (unhide QO _).mono ?_
  rintro e w3 ⟨rfl, hb⟩
  replace HW := hide (Below.step (unhide HW) hb)
  replace HO := hide ((unhide HO).step hb)
  clear hb c0 c1 c2 c3
  have c0 := (unhide HO).cell (i := 0) rfl
  have c1 := (unhide HO).cell (i := 1) rfl
  have c2 := (unhide HO).cell (i := 2) rfl
  have c3 := (unhide HO).cell (i := 3) rfl
  cases ob with
  | false =>
    have HF := hide (unhide HBAD (by rw [unhide HEQ]; first | rfl | simp))
    have hsz := (unhide HW).size
    clear HEQ HTK HOP QT QO QL
    go_wp2_with fail
    refine (unhide QC _ (unhide HW)).mono ?_
    rintro e w9 ⟨rfl, ho, hb⟩
    have HF2 := hide (unhide HF _ _ (Below.step (unhide HW) hb) hsz ho)
    clear ho hb HF
    go_wp2
    refine bodyPost_ret (v := .tuple #[.slice (some ⟨w3.heap.size, 0, none⟩) L.length L.length, .int .i64 1]) (by simp [results, Try.results12, go_sem]) rfl ?_
    exact unhide HF2
  | true =>
  go_wp2_with fail
  refine (unhide QL _).mono ?_
  rintro e w9 ⟨rfl, h9⟩
  have h8 := h9.symm
  subst h8
  clear h9
  cases lb with
  | false =>
    have HF := hide (unhide HBAD (by rw [unhide HEQ]; first | rfl | simp))
    have hsz := (unhide HW).size
    clear HEQ HTK HOP QT QO QL
    go_wp2_with fail
    refine (unhide QC _ (unhide HW)).mono ?_
    rintro e w9 ⟨rfl, ho, hb⟩
    have HF2 := hide (unhide HF _ _ (Below.step (unhide HW) hb) hsz ho)
    clear ho hb HF
    go_wp2
    refine bodyPost_ret (v := .tuple #[.slice (some ⟨w3.heap.size, 0, none⟩) L.length L.length, .int .i64 1]) (by simp [results, Try.results12, go_sem]) rfl ?_
    exact unhide HF2
  | true =>
  have hTk := unhide HTK (by first | rfl | trivial)
  have hop := unhide HOP (by first | rfl | trivial) (by first | rfl | trivial)
  have hOK : cgOk L k a b m lean = true := by rw [unhide HEQ]; rfl
  clear HEQ HTK HOP HBAD QT QO QL
  obtain ⟨A, rfl⟩ : ∃ A : Nat, a = (A : Int) := ⟨a.toNat, by have := hop.a0; omega⟩
  obtain ⟨B, eB⟩ : ∃ B : Nat, B = b.toNat := ⟨_, rfl⟩
  have hl1 := hTk.1
  have hl12 := hTk.2.1
  have hAL : A < L.length := by have := hop.an; omega
  have hB3 : k = 3 → b = (B : Int) ∧ B < L.length ∧ B ≠ A := fun e => by have h0 := hop.b0 e; have h1 := hop.bn e; have h2 := hop.ba e; omega
  have eC := cgC_ok hOK
  rw [show (A : Int).toNat = A from rfl, ← eB] at eC
  have hPN := pad_N L k (a := A) (b := B) m hAL (fun e => (hB3 e).2.1)
  have hop' : CgOp L.length k (A : Int) ((B : Nat) : Int) m := ⟨hop.k1, hop.k5, hop.a0, hop.an, hop.m1, hop.mm, hop.mb, fun e => by omega, fun e => by have := (hB3 e).2.1; omega, fun e => by have := (hB3 e).2.2; omega⟩
  have hMN := cgN_mids hTk hop'
  have hNl := cgN_len L k A B m
  have eL0 : cgC L k (A : Int) b m lean = 0 → cgL L k (A : Int) b m lean = cgN L k A B m := fun h => by rw [cgL_ok h, show (A : Int).toNat = A from rfl, ← eB]
  obtain ⟨N, eN⟩ : ∃ N, N = cgN L k A B m := ⟨_, rfl⟩
  rw [← eN] at hPN hMN hNl eL0 eC
  have hpl : (pad L).length = 12 := pad_len hl12
  have hpn : (pad N).length = 12 := pad_len (by omega)
  have hA12 : A < 12 := by omega
  have hB12 : k = 3 → b = (B : Int) ∧ B < 12 := fun e => by have := hB3 e; omega
  have QP := hide fun W hW => cargoTanksOf_any ao L.length cap L W ((unhide HV).below hW) hl1 hl12
  have QF := hide fun W => cargoFault_any (pad L) (pad N) A B k b m lean W hpl hpn hTk.mids.pad hMN.pad hA12 hB12
  rw [pad_R, ← eC] at QF
  have HC0 := hide eL0
  have HPN := hide hPN
  have hgood : tkGood (tkA (pad L) A) := by rw [pad_at]; exact hTk.2.2 A hAL
  have hk1 := hop.k1
  have hk5 := hop.k5
  have hm1 := hop.m1
  have hmm := hop.mm
  have hmb := hop.mb
  have hmidB : k = 3 → tkMid (tkA (pad L) B) := fun e => by rw [pad_at]; exact (hTk.2.2 B (hB3 e).2.1).mid
  have HNL := hide hNl
  have HLN := hide (show cgC L k (A : Int) b m lean ≠ 0 → cgL L k (A : Int) b m lean = L from cgL_bad)
  obtain ⟨C, eCC⟩ : ∃ C, C = cgC L k (A : Int) b m lean := ⟨_, rfl⟩
  rw [← eCC] at QF HC0 HLN
  have ECC := hide eCC
  clear eC eL0 eCC hPN hop hop' hOK hMN hTk hNl eN eB
  go_wp2_with fail
  refine (unhide QP _ (unhide HW)).mono ?_
  rintro e w5 ⟨rfl, hb⟩
  replace HW := hide (Below.step (unhide HW) hb)
  replace HO := hide ((unhide HO).step hb)
  clear hb QP c0 c1 c2 c3
  obtain ⟨V6, r6, a6, b6⟩ := newArr w5 hpl
  obtain ⟨ga, ega⟩ : ∃ z, z = w5.heap.size := ⟨_, rfl⟩
  have HS := hide (show S4 w V6 g1 ga (pad L) [.int .i64 k, .int .i64 (A : Int), .int .i64 b, .int .i64 m] from ⟨Below.step (unhide HW) b6, (unhide HO).step b6, by rw [ega]; exact a6⟩)
  clear a6 b6 HW HO
  go_upto_region 5 with (refine wpList_storeW (by rfl) (.tmp 10) (.tmp 42) 76 (by rfl) ⟨w5.heap.size, 0, none⟩ (by rfl) _ (by rfl) (by exact r6) ?_)
  clear r6
  dsimp only [Act.put]
  rw [← ega]
  clear ega
  go_cut [11] (fun s wx => ∃ gn, s = .pointer (some ⟨gn, 0, none⟩) ∧ Hid (S4 w wx g1 ga (pad L) [.int .i64 k, .int .i64 (A : Int), .int .i64 b, .int .i64 m]) ∧ Hid (ArrT wx gn (pad N)))
  case first =>
    have c0 := (unhide HS).o.cell (i := 0) rfl
    have c1 := (unhide HS).o.cell (i := 1) rfl
    have c2 := (unhide HS).o.cell (i := 2) rfl
    have c3 := (unhide HS).o.cell (i := 3) rfl
    have hld := (unhide HS).a.load
    have hk : k = 1 ∨ k = 2 ∨ k = 3 ∨ k = 4 ∨ k = 5 := by omega
    rcases hk with hk | hk | hk | hk | hk
    · have ef : fv = fnV 63 := by rw [unhide EFV, hk]; rfl
      have QD := hide fun W => filled_any (pad L) A k b m W hpl hA12 hgood.mid hm1 hmm
      have eP : (pad L).set A (inT (tkA (pad L) A) m) = pad N := by rw [← unhide HPN, hk]; rfl
      rw [eP] at QD
      have hcf := fun args W => cf_filled args W
      unfold vCargoOp at QD
      clear EFV HPN eP hk
      subst ef
      go_wp2_with (first | (refine wpList_loadW (by rfl) (.tmp 10) 76 (by rfl) ⟨ga, 0, none⟩ (by rfl) _ (by exact hld) ?_))
      refine (unhide QD _).mono ?_
      rintro e w7 ⟨rfl, hb⟩
      replace HS := hide ((unhide HS).step hb)
      obtain ⟨V7, r7, a7, b7⟩ := newArr w7 hpn
      replace HS := hide ((unhide HS).step b7)
      have HA7 := hide a7
      clear hb b7 a7 c0 c1 c2 c3 hld hcf QD
      go_wp2_with (refine wpList_storeW (by rfl) (.tmp 11) (.tmp 46) 76 (by rfl) ⟨w7.heap.size, 0, none⟩ (by rfl) _ (by rfl) (by exact r7) ?_)
      go_meet
      exact ⟨_, rfl, unhide HS, unhide HA7⟩
    · have ef : fv = fnV 64 := by rw [unhide EFV, hk]; rfl
      have QD := hide fun W => emptied_any (pad L) A k b m W hpl hA12 hgood hm1 hmm
      have eP : (pad L).set A (outT (tkA (pad L) A) m) = pad N := by rw [← unhide HPN, hk]; rfl
      rw [eP] at QD
      have hcf := fun args W => cf_emptied args W
      unfold vCargoOp at QD
      clear EFV HPN eP hk
      subst ef
      go_wp2_with (first | (refine wpList_loadW (by rfl) (.tmp 10) 76 (by rfl) ⟨ga, 0, none⟩ (by rfl) _ (by exact hld) ?_))
      refine (unhide QD _).mono ?_
      rintro e w7 ⟨rfl, hb⟩
      replace HS := hide ((unhide HS).step hb)
      obtain ⟨V7, r7, a7, b7⟩ := newArr w7 hpn
      replace HS := hide ((unhide HS).step b7)
      have HA7 := hide a7
      clear hb b7 a7 c0 c1 c2 c3 hld hcf QD
      go_wp2_with (refine wpList_storeW (by rfl) (.tmp 11) (.tmp 46) 76 (by rfl) ⟨w7.heap.size, 0, none⟩ (by rfl) _ (by rfl) (by exact r7) ?_)
      go_meet
      exact ⟨_, rfl, unhide HS, unhide HA7⟩
    · have ef : fv = fnV 65 := by rw [unhide EFV, hk]; rfl
      have QD := hide fun W => moved_any (pad L) A B k m W hpl hA12 (hB12 hk).2 (hB3 hk).2.2 hgood (hmidB hk) hm1 hmm
      have eP : ((pad L).set A (outT (tkA (pad L) A) m)).set B (inT (tkA (pad L) B) m) = pad N := by rw [← unhide HPN, hk]; rfl
      rw [eP] at QD
      have hcf := fun args W => cf_moved args W
      obtain ⟨rfl, -⟩ := hB12 hk
      unfold vCargoOp at QD
      clear EFV HPN eP hk
      subst ef
      go_wp2_with (first | (refine wpList_loadW (by rfl) (.tmp 10) 76 (by rfl) ⟨ga, 0, none⟩ (by rfl) _ (by exact hld) ?_))
      refine (unhide QD _).mono ?_
      rintro e w7 ⟨rfl, hb⟩
      replace HS := hide ((unhide HS).step hb)
      obtain ⟨V7, r7, a7, b7⟩ := newArr w7 hpn
      replace HS := hide ((unhide HS).step b7)
      have HA7 := hide a7
      clear hb b7 a7 c0 c1 c2 c3 hld hcf QD
      go_wp2_with (refine wpList_storeW (by rfl) (.tmp 11) (.tmp 46) 76 (by rfl) ⟨w7.heap.size, 0, none⟩ (by rfl) _ (by rfl) (by exact r7) ?_)
      go_meet
      exact ⟨_, rfl, unhide HS, unhide HA7⟩
    · have ef : fv = fnV 66 := by rw [unhide EFV, hk]; rfl
      have QD := hide fun W => inerted_any (pad L) A k b m W hpl hA12 hgood hm1 (hmb (by omega))
      have eP : (pad L).set A (inrT (tkA (pad L) A) m) = pad N := by rw [← unhide HPN, hk]; rfl
      rw [eP] at QD
      have hcf := fun args W => cf_inerted args W
      unfold vCargoOp at QD
      clear EFV HPN eP hk
      subst ef
      go_wp2_with (first | (refine wpList_loadW (by rfl) (.tmp 10) 76 (by rfl) ⟨ga, 0, none⟩ (by rfl) _ (by exact hld) ?_))
      refine (unhide QD _).mono ?_
      rintro e w7 ⟨rfl, hb⟩
      replace HS := hide ((unhide HS).step hb)
      obtain ⟨V7, r7, a7, b7⟩ := newArr w7 hpn
      replace HS := hide ((unhide HS).step b7)
      have HA7 := hide a7
      clear hb b7 a7 c0 c1 c2 c3 hld hcf QD
      go_wp2_with (refine wpList_storeW (by rfl) (.tmp 11) (.tmp 46) 76 (by rfl) ⟨w7.heap.size, 0, none⟩ (by rfl) _ (by rfl) (by exact r7) ?_)
      go_meet
      exact ⟨_, rfl, unhide HS, unhide HA7⟩
    · have ef : fv = fnV 67 := by rw [unhide EFV, hk]; rfl
      have QD := hide fun W => vented_any (pad L) A k b m W hpl hA12 hgood hm1 (hmb (by omega))
      have eP : (pad L).set A (venT (tkA (pad L) A) m) = pad N := by rw [← unhide HPN, hk]; rfl
      rw [eP] at QD
      have hcf := fun args W => cf_vented args W
      unfold vCargoOp at QD
      clear EFV HPN eP hk
      subst ef
      go_wp2_with (first | (refine wpList_loadW (by rfl) (.tmp 10) 76 (by rfl) ⟨ga, 0, none⟩ (by rfl) _ (by exact hld) ?_))
      refine (unhide QD _).mono ?_
      rintro e w7 ⟨rfl, hb⟩
      replace HS := hide ((unhide HS).step hb)
      obtain ⟨V7, r7, a7, b7⟩ := newArr w7 hpn
      replace HS := hide ((unhide HS).step b7)
      have HA7 := hide a7
      clear hb b7 a7 c0 c1 c2 c3 hld hcf QD
      go_wp2_with (refine wpList_storeW (by rfl) (.tmp 11) (.tmp 46) 76 (by rfl) ⟨w7.heap.size, 0, none⟩ (by rfl) _ (by rfl) (by exact r7) ?_)
      go_meet
      exact ⟨_, rfl, unhide HS, unhide HA7⟩
  case rest =>
  clear HS
  obtain ⟨gn, rfl, HS, HN⟩ := hcut
  have c0 := (unhide HS).o.cell (i := 0) rfl
  have c1 := (unhide HS).o.cell (i := 1) rfl
  have c2 := (unhide HS).o.cell (i := 2) rfl
  have c3 := (unhide HS).o.cell (i := 3) rfl
  have l1 := (unhide HS).a.load
  have l2 := (unhide HN).load
  unfold vCargoOp at QF
  go_wp2_with (first | (refine wpList_loadW (by rfl) (.tmp 10) 76 (by rfl) ⟨ga, 0, none⟩ (by rfl) _ (by exact l1) ?_) | (refine wpList_loadW (by rfl) (.tmp 11) 76 (by rfl) ⟨gn, 0, none⟩ (by rfl) _ (by exact l2) ?_))
  refine (unhide QF _).mono ?_
  rintro e w8 ⟨rfl, hb⟩
  have HW := hide (Below.step (unhide HS).below hb)
  replace HN := hide ((unhide HN).step hb)
  clear hb c0 c1 c2 c3 l1 l2 HS QF
  have hsz := (unhide HW).size
  by_cases hC : C = 0
  · have hd : (C != 0) = false := by rw [hC]; rfl
    have QC2 := hide fun W (hW : Below w8.heap.size w8 W) => ownCopyTank_any (some ⟨gn, 0, none⟩) L.length 12 N W (by rw [← unhide HNL]; exact ((unhide HN).step hW).recs (by rw [unhide HNL]; exact hl12)) (by omega)
    have HC1 := hide hC
    clear hC QC
    have hli : (L.length : Int) ≤ 12 := by omega
    go_wp2_with fail
    refine (unhide QC2 _ (Below.refl _ _)).mono ?_
    rintro e w9 ⟨rfl, ho, hb⟩
    replace HW := hide (Below.step (unhide HW) hb)
    have HR := hide ho
    clear ho hb
    go_wp2
    refine bodyPost_ret (v := .tuple #[.slice (some ⟨w8.heap.size, 0, none⟩) L.length L.length, .int .i64 0]) (by simp [results, Try.results12, go_sem]) rfl ⟨_, _, _, by rw [← unhide ECC, unhide HC1], ?_, unhide HW⟩
    rw [unhide HC0 (unhide HC1), ← unhide HNL]
    exact ownR_copy (unhide HR) hsz (by rw [unhide HNL]; exact hn)
  · have hd : (C != 0) = true := bne_iff_ne.2 hC
    have HC1 := hide hC
    clear hC
    go_wp2_with fail
    refine (unhide QC _ (unhide HW)).mono ?_
    rintro e w9 ⟨rfl, ho, hb⟩
    replace HW := hide (Below.step (unhide HW) hb)
    have HR := hide ho
    clear ho hb
    go_wp2
    refine bodyPost_ret (v := .tuple #[.slice (some ⟨w8.heap.size, 0, none⟩) L.length L.length, .int .i64 C]) (by simp [results, Try.results12, go_sem]) rfl ⟨_, _, _, by rw [← unhide ECC], ?_, unhide HW⟩
    rw [unhide HLN (unhide HC1)]
    exact ownR_copy (unhide HR) hsz hn

end Go.Proofs.Ytfokocpdngokfaa
