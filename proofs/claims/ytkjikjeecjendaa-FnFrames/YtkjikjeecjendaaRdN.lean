/- Radios: contracts of the program's settleFirst, Settle. -/
import Derived.Test.YtkjikjeecjendaaRdM
namespace Go.Proofs.Ytkjikjeecjendaa
open Go.RowKit

theorem run_lens {K L : List Rad} (hl : ∀ i, i < L.length → (L.getD i default).2.2.length ≤ 1048576) (h1 : K.length = L.length) (h2 : ∀ r, rHe K r = rHe L r) : ∀ i, i < K.length → (K.getD i default).2.2.length ≤ 1048576 := fun i hi => by
  rw [show (K.getD i default).2.2 = (L.getD i default).2.2 from h2 i]
  exact hl i (by omega)

set_option maxRecDepth 10000 in
set_option maxHeartbeats 1600000 in
theorem settleFirst_any (g : Nat) (G : Nat → Nat) (L : List Rad) (coin : Int) (w : World) (h : OwnRd w g G L) (hs : L.length ≤ 1048576) (hl : ∀ i, i < L.length → (L.getD i default).2.2.length ≤ 1048576) :
    Calls Try.prog 65 #[.slice (some ⟨g, 0, none⟩) L.length L.length, .int .i64 coin] w fun e w' => ∃ b K, e = .returned (.bool b) ∧ (b = true → stepS L coin = some K) ∧ (b = false → stepS L coin = none ∧ K = L) ∧ OwnRd w' g G K ∧ Kept (fun b => b = g) w w' := by
  have HO := hide h
  have HI := hide fun W (hW : Below w.heap.size w W) => (h.step hW).inn hs hl
  have HCL := hide (implClashes_any _ L w (h.inn hs hl))
  have HN0 := hide fun hq => stepS_no (L := L) (coin := coin) hq
  have HN1 := hide fun c hc hq => stepS_yes (L := L) (coin := coin) (c := c) hc hq
  have HME := hide fun (c : Int) hc => clashL_mem (L := L) (c := c) hc
  have HCH := hide fun c W (hW : Below w.heap.size w W) => implChoose_any _ L c coin W (unhide HI W hW)
  generalize clashL L = M at *
  clear h hl
  go_enter Try.func65, Try.ntmps65
  go_wp2_with fail
  refine (unhide HCL).mono ?_
  rintro e w1 ⟨fa, n, fc, rfl, ho, hb⟩
  have HB := hide hb
  have HM := hide ho.intsIn
  obtain ⟨hfn, hfc, hfm⟩ := ho.intsIn.len
  unfold maxLen at hfm
  have HFN := hide hfn
  clear ho hb HCL hfn
  by_cases hn0 : n = 0
  · have hfz : ((n : Int) == 0) = true := by simpa using hn0
    have HE := hide (unhide HN0 (by rw [unhide HFN]; exact hn0))
    clear hn0
    go_wp2
    go_ret
    exact ⟨false, L, rfl, fun h => (by cases h), fun _ => ⟨unhide HE, rfl⟩, (unhide HO).step (unhide HB), kept_of_below (unhide HB)⟩
  · have hfz : ((n : Int) == 0) = false := by simpa using hn0
    have hpos : (0 : Int) < n := by omega
    obtain ⟨b2, o2, rfl, hcell⟩ := intAt (unhide HM) (show 0 < n by omega)
    rw [Nat.add_zero] at hcell
    have hmem : M.getD 0 0 ∈ M := by rw [getD_lt (show 0 < M.length by rw [unhide HFN]; omega)]; exact List.getElem_mem _
    have hcb := unhide HME _ hmem
    have HE := hide (unhide HN1 _ rfl (by rw [unhide HFN]; omega))
    obtain ⟨c, hc⟩ : ∃ c : Nat, M.getD 0 0 = (c : Int) := ⟨(M.getD 0 0).toNat, by omega⟩
    rw [hc] at hcell hcb HE
    rw [Int.toNat_natCast] at HE
    have HCC := hide (unhide HCH (c : Int) w1 (unhide HB))
    generalize chooseV L (c : Int) coin = CV at HE HCC
    obtain ⟨sl, ok⟩ := CV
    have hcl : c < L.length := by omega
    have hcl' : (c : Int) < L.length := by omega
    clear hc hmem HCH HME HN0 HN1 hn0
    dsimp only at HE HCC
    go_wp2_with fail
    refine (unhide HCC).mono ?_
    rintro e w2 ⟨rfl, hb⟩
    replace HB := hide (Below.step (unhide HB) hb)
    have hcell2 := wcell3 hcell hb
    clear hb HCC hcell
    have HO2 := hide ((unhide HO).step (unhide HB))
    cases ok with
    | false =>
      rw [if_neg (by simp)] at HE
      go_wp2
      go_ret
      exact ⟨false, L, rfl, fun h => (by cases h), fun _ => ⟨unhide HE, rfl⟩, unhide HO2, kept_of_below (unhide HB)⟩
    | true =>
      rw [if_pos rfl] at HE
      have hu := (unhide HO2).1.cell (rec_at (L := L) (G := G) (r := c) (j := 1) hcl (by omega))
      have hfr := (unhide HO2).1.frozen (c * 3 + 1)
      have HO3 := hide ((unhide HO2).setSlot hcl sl)
      have HK := hide ((kept_of_below (T := fun b => b = g) (unhide HB)).setCell (p := ⟨g, c * 3 + 1, none⟩) rfl (.int .i64 sl))
      generalize eRd ((L.getD c default).1, (L.getD c default).2.1, (L.getD c default).2.2.length, G c) 1 = u1 at hu
      go_wp2
      go_ret
      exact ⟨true, _, rfl, fun _ => unhide HE, fun h => (by cases h), unhide HO3, unhide HK⟩

/-- What Settle tells, in numbers. -/
noncomputable def settleV (L : List Rad) (C : List Int) : List Rad × Int × Bool :=
  if radsB L = true ∧ coinsB C = true then ((runS L C).1, ((runS L C).2 : Int), decide ((clashL (runS L C).1).length = 0)) else ([], 0, false)
theorem settleV_no {L : List Rad} {C : List Int} (h : ¬ (radsB L = true ∧ coinsB C = true)) : settleV L C = ([], 0, false) := by unfold settleV; rw [if_neg h]
theorem settleV_yes {L K : List Rad} {C : List Int} {u : Nat} (h1 : radsB L = true) (h2 : coinsB C = true) (h : runS L C = (K, u)) : settleV L C = (K, (u : Int), decide ((clashL K).length = 0)) := by unfold settleV; rw [if_pos ⟨h1, h2⟩, h]

/-- A list of radios of the call's own, its blocks from B on; nothing where it is empty. -/
def OwnRs (B : Nat) (w : World) (v : Value) (L : List Rad) : Prop := L = [] ∧ (∃ a c, v = .slice a 0 c ∧ c ≤ maxLen) ∨ ∃ g G, v = .slice (some ⟨g, 0, none⟩) L.length L.length ∧ B ≤ g ∧ OwnRd w g G L

set_option maxRecDepth 10000 in
set_option maxHeartbeats 3200000 in
theorem implSettle_any (v cv : Value) (L : List Rad) (C : List Int) (w : World) (h : RadsIn w v L) (hC : IntsIn w cv C) (hs : L.length ≤ 1048576) (hl : ∀ i, i < L.length → (L.getD i default).2.2.length ≤ 1048576) :
    Calls Try.prog 22 #[v, cv] w fun e w' => ∃ a n cp, e = .returned (.tuple #[.slice a n cp, .int .i64 (settleV L C).2.1, .bool (settleV L C).2.2]) ∧ OwnRs w.heap.size w' (.slice a n cp) (settleV L C).1 ∧ Below w.heap.size w w' := by
  have HV := hide h
  have HVC := hide hC
  have HOKC := hide (implRadiosOk_any v L w h)
  have HCK := hide fun W (hW : Below w.heap.size w W) => coinsOk_any cv C W (hC.below hW)
  have HL := hide hl
  obtain ⟨ao, cap, rfl, hlc, hm, hc⟩ := h
  obtain ⟨ca, cc, rfl, hcl, hcm, hcc⟩ := hC
  unfold maxLen at hm hcm
  have HCC := hide hcc
  clear hc hcc hl
  cases hrb : radsB L with
  | false =>
    have EC := hide (settleV_no (L := L) (C := C) (by rw [hrb]; simp))
    rw [hrb] at HOKC
    clear hrb
    go_enter Try.func22, Try.ntmps22
    go_wp2_with fail
    refine (unhide HOKC).mono ?_
    rintro e w1 ⟨rfl, hb⟩
    have HB := hide hb
    clear hb
    go_wp2
    refine bodyPost_ret (v := .tuple #[.slice none 0 0, .int .i64 0, .bool false]) (by simp [results, Try.results22, go_sem]) rfl ⟨none, 0, 0, by rw [unhide EC], by rw [unhide EC]; exact Or.inl ⟨rfl, none, 0, rfl, Nat.zero_le _⟩, unhide HB⟩
  | true =>
  have HRB := hide hrb
  rw [hrb] at HOKC
  cases hcb : coinsB C with
  | false =>
    have EC := hide (settleV_no (L := L) (C := C) (by rw [hcb]; simp))
    rw [hcb] at HCK
    clear hrb hcb
    go_enter Try.func22, Try.ntmps22
    go_wp2_with fail
    refine (unhide HOKC).mono ?_
    rintro e w1 ⟨rfl, hb⟩
    have HB := hide hb
    clear hb
    go_wp2_with fail
    refine (unhide HCK _ (unhide HB)).mono ?_
    rintro e w2 ⟨rfl, h9⟩
    have h8 := h9.symm
    subst h8
    clear h9
    go_wp2
    refine bodyPost_ret (v := .tuple #[.slice none 0 0, .int .i64 0, .bool false]) (by simp [results, Try.results22, go_sem]) rfl ⟨none, 0, 0, by rw [unhide EC], by rw [unhide EC]; exact Or.inl ⟨rfl, none, 0, rfl, Nat.zero_le _⟩, unhide HB⟩
  | true =>
  have HCB := hide hcb
  rw [hcb] at HCK
  have HY := hide fun K u hK => settleV_yes (K := K) (u := u) hrb hcb hK
  have hC200 : C.length ≤ 200 := by
    unfold coinsB at hcb
    simp only [Bool.and_eq_true, decide_eq_true_eq] at hcb
    exact hcb.1
  generalize settleV L C = SV at *
  clear hrb hcb
  go_enter Try.func22, Try.ntmps22
  go_wp2_with fail
  refine (unhide HOKC).mono ?_
  rintro e w1 ⟨rfl, hb⟩
  have HB := hide hb
  clear hb HOKC
  go_wp2_with fail
  refine (unhide HCK _ (unhide HB)).mono ?_
  rintro e w2 ⟨rfl, h9⟩
  have h8 := h9.symm
  subst h8
  clear h9 HCK
  go_wp2_with fail
  refine (ownRadios_any _ _ L _ ((unhide HV).below (unhide HB)) hs (unhide HL)).mono ?_
  rintro e w3 ⟨g, G, rfl, hg, hO, hb⟩
  have hgw : w.heap.size ≤ g := Nat.le_trans (unhide HB).size hg
  have HB3 := hide (Below.step (unhide HB) hb)
  have HO := hide hO
  clear hO hb HB hg
  go_wp2
  go_loopg [8] C.length (fun gg uv wr => ∃ (u : Nat) (K : List Rad), u ≤ C.length ∧ gg = C.length - u ∧ uv = .int .i64 u ∧ Below w.heap.size w wr ∧ OwnRd wr g G K ∧ Hid (Run L C K u))
  case atStart => exact ⟨0, L, Nat.zero_le _, rfl, rfl, unhide HB3, unhide HO, Run.start L C⟩
  case round =>
    obtain ⟨u, K, hu, rfl, rfl, hW, hO, HR⟩ := hrel
    clear HB3 HO
    have hKl := (unhide HR).len
    have hKs : K.length ≤ 1048576 := by omega
    have hKL := run_lens (unhide HL) (unhide HR).len (unhide HR).he
    have HW := hide hW
    have HO := hide hO
    have HEND : Hid (∀ W, Below w.heap.size w W → OwnRd W g G K → RadsIn W (.slice (some ⟨g, 0, none⟩) L.length L.length) K) := fun W _ hoW => by
      have := hoW.inn hKs hKL
      rw [hKl] at this
      exact this
    clear hW hO
    by_cases hul : u < C.length
    · obtain ⟨cb, co, rfl, hcell⟩ := unhide HCC u hul
      have c0 := wcell3 hcell (unhide HW)
      have hui : (u : Int) < C.length := by omega
      have HSF := hide (settleFirst_any g G K (C.getD u 0) _ (unhide HO) hKs hKL)
      rw [hKl] at HSF
      have HST := hide fun K' h => (unhide HR).step (K' := K') hul h
      have HDN := hide fun h => (unhide HR).done (runS_none (L := K) hul h)
      generalize C.getD u 0 = coin at *
      clear hcell
      go_wp2_with fail
      refine (unhide HSF).mono ?_
      rintro e w4 ⟨b, K', rfl, hbt, hbf, hO4, hk4⟩
      have HB4 := hide ((unhide HW).trans (hk4.below (B := w.heap.size) (unhide HW).size (fun b e => by omega)))
      have HO4 := hide hO4
      clear hk4 hO4 HSF
      cases b with
      | true =>
        have HR2 := hide (unhide HST K' (hbt rfl))
        clear hbt hbf HST HDN
        go_wp2
        go_roundg (C.length - (u + 1))
        case measure => omega
        case rel => exact ⟨u + 1, K', by omega, rfl, by go_num, unhide HB4, unhide HO4, HR2⟩
      | false =>
        obtain ⟨hno, hKK⟩ := hbf rfl
        subst hKK
        have EC := hide (unhide HY _ _ (unhide HDN hno))
        have HCL := hide (implClashes_any _ K' _ (unhide HEND _ (unhide HB4) (unhide HO4)))
        clear hbt hbf hno HST HDN
        go_wp2_with fail
        refine (unhide HCL).mono ?_
        rintro e w5 ⟨fa, n, fc, rfl, ho, hb⟩
        have HB5 := hide (Below.step (unhide HB4) hb)
        have HO5 := hide ((unhide HO4).step hb)
        have hfn := ho.intsIn.len.1
        rw [hfn] at EC
        clear ho hb HCL hfn
        have hdn : ((n : Int) == 0) = decide (n = 0) := by by_cases e : n = 0 <;> simp [e]
        go_wp2
        refine bodyPost_ret (v := .tuple #[.slice (some ⟨g, 0, none⟩) L.length L.length, .int .i64 u, .bool (decide (n = 0))]) (by simp [results, Try.results22, go_sem]) rfl ⟨_, _, _, by rw [unhide EC], by rw [unhide EC]; exact Or.inr ⟨g, G, by rw [hKl], hgw, unhide HO5⟩, unhide HB5⟩
    · have EC := hide (unhide HY _ _ ((unhide HR).done (runS_end (L := K) (by omega))))
      have HCL := hide (implClashes_any _ K _ (unhide HEND _ (unhide HW) (unhide HO)))
      go_wp2_with fail
      refine (unhide HCL).mono ?_
      rintro e w5 ⟨fa, n, fc, rfl, ho, hb⟩
      have HB5 := hide (Below.step (unhide HW) hb)
      have HO5 := hide ((unhide HO).step hb)
      have hfn := ho.intsIn.len.1
      rw [hfn] at EC
      clear ho hb HCL hfn
      have hdn : ((n : Int) == 0) = decide (n = 0) := by by_cases e : n = 0 <;> simp [e]
      go_wp2
      refine bodyPost_ret (v := .tuple #[.slice (some ⟨g, 0, none⟩) L.length L.length, .int .i64 u, .bool (decide (n = 0))]) (by simp [results, Try.results22, go_sem]) rfl ⟨_, _, _, by rw [unhide EC], by rw [unhide EC]; exact Or.inr ⟨g, G, by rw [hKl], hgw, unhide HO5⟩, unhide HB5⟩

end Go.Proofs.Ytkjikjeecjendaa
