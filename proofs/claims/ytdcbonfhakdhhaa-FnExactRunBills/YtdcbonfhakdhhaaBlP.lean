/- Bills: contracts of the program's behindBillOp, DoBill, RunBills. Written by wip/mkblp.py. -/
import Derived.Test.YtdcbonfhakdhhaaBlO
namespace Go.Proofs.Ytdcbonfhakdhhaa
open Go.RowKit

theorem do_bad {b : BkT} {o : BillOpT} (h : (bookB b && opB o) = false) : doB b o = (b, 1) := by rw [doB, if_pos h]

set_option maxRecDepth 100000 in
set_option maxHeartbeats 8000000 in
theorem behindBillOp_any (A : Nat → Prop) (g m cap f mf fcap : Nat) (E : List EBl) (F : List Int) (kd id : Int) (who tt : ByteArray) (num many : Int) (w : World) (h : PBk A w g m cap f mf fcap E F) (hA : ∀ k, w.heap.size ≤ k → A k) (hbd : Bd (bills E, F)) :
    Calls Try.prog 34 #[vBook (.slice (some ⟨g, 0, none⟩) m cap) (.slice (some ⟨f, 0, none⟩) mf fcap), vBillOp kd id who tt num many] w fun e w' => PAns A w (doB (bills E, F) (kd, id, who, tt, num, many)) e w' := by
  have HB0 := hide (bx_new h #[.slice (some ⟨g, 0, none⟩) m cap, .slice (some ⟨f, 0, none⟩) mf fcap] #[.int .i64 kd, .int .i64 id, .string who, .string tt, .int .i64 num, .int .i64 many] #[.slice none 0 0, .slice none 0 0] 27 34 27 rfl rfl)
  obtain ⟨V1, eV1⟩ : ∃ V, V = ((w.alloc (.cells #[.slice (some ⟨g, 0, none⟩) m cap, .slice (some ⟨f, 0, none⟩) mf fcap] 27)).alloc (.cells #[.int .i64 kd, .int .i64 id, .string who, .string tt, .int .i64 num, .int .i64 many] 34)).alloc (.cells #[.slice none 0 0, .slice none 0 0] 27) := ⟨_, rfl⟩
  rw [← eV1] at HB0
  have HB : Hid (Bx A w V1 (.slice (some ⟨g, 0, none⟩) m cap) (.slice (some ⟨f, 0, none⟩) mf fcap) [.int .i64 kd, .int .i64 id, .string who, .string tt, .int .i64 num, .int .i64 many] g m cap f mf fcap E F) := HB0
  clear HB0
  have QB := hide fun V bv fv (hV : BkIn V bv fv (bills E, F)) => implBookOk_any bv fv (bills E, F) V hV
  have QO := hide fun V => billOpOk_any kd id who tt num many V
  have HBA := hide fun h => do_bad (b := (bills E, F)) (o := (kd, id, who, tt, num, many)) h
  have QI : Hid (∀ (mN : Nat) V, many = (mN : Int) → kd = 1 → bookB (bills E, F) = true → opB (kd, id, who, tt, num, many) = true → w.heap.size + 2 < V.heap.size → PBk (no3 A w.heap.size) V g m cap f mf fcap E F → Calls Try.prog 64 #[vBook (.slice (some ⟨g, 0, none⟩) m cap) (.slice (some ⟨f, 0, none⟩) mf fcap), vBillOp kd id who tt num many] V fun e w' => PAns (no3 A w.heap.size) V (doB (bills E, F) (kd, id, who, tt, num, many)) e w') := fun mN V e1 e2 h1 h2 h3 h4 => by
    subst e1 e2
    exact issued_any _ g m cap f mf fcap E F id who tt num mN V h4 (fun k hk => ⟨hA k (by omega), Or.inr (by omega)⟩) hbd h1 h2
  have QP : Hid (∀ V, kd ≠ 1 → bookB (bills E, F) = true → opB (kd, id, who, tt, num, many) = true → w.heap.size + 2 < V.heap.size → PBk (no3 A w.heap.size) V g m cap f mf fcap E F → Calls Try.prog 65 #[vBook (.slice (some ⟨g, 0, none⟩) m cap) (.slice (some ⟨f, 0, none⟩) mf fcap), vBillOp kd id who tt num many] V fun e w' => PAns (no3 A w.heap.size) V (doB (bills E, F) (kd, id, who, tt, num, many)) e w') := fun V e2 h1 h2 h3 h4 =>
    passed_any _ g m cap f mf fcap E F kd id who tt num many V h4 (fun k hk => ⟨hA k (by omega), Or.inr (by omega)⟩) hbd h1 h2 e2
  have HMN : Hid (kd = 1 → opB (kd, id, who, tt, num, many) = true → ∃ mN : Nat, many = mN) := fun e h => by
    have := op_many h (Or.inl e)
    dsimp only at this
    exact Int.eq_ofNat_of_zero_le (by omega)
  clear h hbd
  generalize bookB (bills E, F) = z1 at *
  generalize opB (kd, id, who, tt, num, many) = z2 at *
  unfold vBook at QB
  unfold vBillOp at QO
  unfold vBook vBillOp at QI QP
  unfold vBook vBillOp
  go_enter Try.func34, Try.ntmps34
  go_upto_region 1 with (fail)
  rw [← eV1]
  clear eV1
  have q0 := (unhide HB).own.cell (i := 0) rfl
  have q1 := (unhide HB).own.cell (i := 1) rfl
  go_wp2_with fail
  refine (unhide QB _ _ _ (unhide HB).pbk.inn).mono ?_
  rintro e w1 ⟨rfl, hb⟩
  replace HB := hide ((unhide HB).step hb)
  clear hb QB q0 q1
  have q0 := (unhide HB).own.cell (i := 0) rfl
  have q1 := (unhide HB).own.cell (i := 1) rfl
  cases z1 with
  | false =>
    have r0 := (unhide HB).res.cell (i := 0) rfl
    have r1 := (unhide HB).res.cell (i := 1) rfl
    have rf := (unhide HB).res.frozen
    have HR := hide ((unhide HB).res2 (.slice (some ⟨g, 0, none⟩) m cap) (.slice (some ⟨f, 0, none⟩) mf fcap))
    have hn1 : ¬ w.heap.size = w.heap.size + 2 := by omega
    have EDO := hide (unhide HBA (by simp))
    clear QI QP HMN HBA
    go_wp2
    have k0 := (unhide HR).2.1.cell (i := 0) rfl
    have k1 := (unhide HR).2.1.cell (i := 1) rfl
    refine bodyPost_ret (v := .tuple #[vBook (.slice (some ⟨g, 0, none⟩) m cap) (.slice (some ⟨f, 0, none⟩) mf fcap), .int .i64 1]) (by simp [results, Try.results34, go_sem, vBook, k0, k1]) rfl ?_
    show PAns _ _ _ _ _
    rw [unhide EDO]
    exact ⟨g, m, cap, f, mf, fcap, E, rfl, rfl, (unhide HR).2.2, keptOr (unhide HR).1⟩
  | true =>
    have op0 := (unhide HB).op.cell (i := 0) rfl
    have op1 := (unhide HB).op.cell (i := 1) rfl
    have op2 := (unhide HB).op.cell (i := 2) rfl
    have op3 := (unhide HB).op.cell (i := 3) rfl
    have op4 := (unhide HB).op.cell (i := 4) rfl
    have op5 := (unhide HB).op.cell (i := 5) rfl
    go_wp2_with fail
    refine (unhide QO _).mono ?_
    rintro e w2 ⟨rfl, hb⟩
    replace HB := hide ((unhide HB).step hb)
    clear hb QO q0 q1 op0 op1 op2 op3 op4 op5
    cases z2 with
    | false =>
      have q0 := (unhide HB).own.cell (i := 0) rfl
      have q1 := (unhide HB).own.cell (i := 1) rfl
      have r0 := (unhide HB).res.cell (i := 0) rfl
      have r1 := (unhide HB).res.cell (i := 1) rfl
      have rf := (unhide HB).res.frozen
      have HR := hide ((unhide HB).res2 (.slice (some ⟨g, 0, none⟩) m cap) (.slice (some ⟨f, 0, none⟩) mf fcap))
      have hn1 : ¬ w.heap.size = w.heap.size + 2 := by omega
      have EDO := hide (unhide HBA (by simp))
      clear QI QP HMN HBA
      go_wp2
      have k0 := (unhide HR).2.1.cell (i := 0) rfl
      have k1 := (unhide HR).2.1.cell (i := 1) rfl
      refine bodyPost_ret (v := .tuple #[vBook (.slice (some ⟨g, 0, none⟩) m cap) (.slice (some ⟨f, 0, none⟩) mf fcap), .int .i64 1]) (by simp [results, Try.results34, go_sem, vBook, k0, k1]) rfl ?_
      show PAns _ _ _ _ _
      rw [unhide EDO]
      exact ⟨g, m, cap, f, mf, fcap, E, rfl, rfl, (unhide HR).2.2, keptOr (unhide HR).1⟩
    | true =>
      have op0 := (unhide HB).op.cell (i := 0) rfl
      have hlt := (unhide HB).lt
      clear HBA
      by_cases hk1 : kd = 1
      · obtain ⟨mN, hmN⟩ := unhide HMN hk1 (by simp)
        have QI2 := hide (unhide QI mN w2 hmN hk1 (by simp) (by simp) hlt (unhide HB).pbk)
        clear QI QP HMN hmN
        subst hk1
        have q0 := (unhide HB).own.cell (i := 0) rfl
        have q1 := (unhide HB).own.cell (i := 1) rfl
        have op1 := (unhide HB).op.cell (i := 1) rfl
        have op2 := (unhide HB).op.cell (i := 2) rfl
        have op3 := (unhide HB).op.cell (i := 3) rfl
        have op4 := (unhide HB).op.cell (i := 4) rfl
        have op5 := (unhide HB).op.cell (i := 5) rfl
        go_wp2_with fail
        refine (unhide QI2).mono ?_
        rintro e w5 hP
        obtain ⟨g', m', cap', f', mf', fcap', E', rfl, eB, hP, hK⟩ := hP
        have HE := hide eB
        have hres := (unhide HB).res.kept hK (by unfold no3; omega)
        have HPN := hide hP
        have HKK := hide ((unhide HB).kept.trans (hK.mono fun b _ h => h.1))
        clear eB hP hK q0 q1 op1 op2 op3 op4 op5 QI2
        have r0 := hres.cell (i := 0) rfl
        have r1 := hres.cell (i := 1) rfl
        have rf := hres.frozen
        have HR := hide ((hres.set 0 (.slice (some ⟨g', 0, none⟩) m' cap') (by simp)).set 1 (.slice (some ⟨f', 0, none⟩) mf' fcap') (by simp))
        have HFP := hide ((((unhide HPN).far (b := w.heap.size + 2) (i := 0) (u := .slice (some ⟨g', 0, none⟩) m' cap') (by unfold no3; omega)).far (b := w.heap.size + 2) (i := 1) (u := .slice (some ⟨f', 0, none⟩) mf' fcap') (by unfold no3; omega)).mono (A' := A) (fun _ _ h => h.1))
        have HFK := hide (keptOr ((((unhide HKK).mono (T' := fun k => A k ∨ w.heap.size ≤ k) (fun _ _ h => Or.inl h)).setCell (p := ⟨w.heap.size + 2, 0, none⟩) (Or.inr (by show w.heap.size ≤ w.heap.size + 2; omega)) (.slice (some ⟨g', 0, none⟩) m' cap')).setCell (p := ⟨w.heap.size + 2, 1, none⟩) (Or.inr (by show w.heap.size ≤ w.heap.size + 2; omega)) (.slice (some ⟨f', 0, none⟩) mf' fcap')))
        unfold vBook
        go_wp2
        have k0 := (unhide HR).cell (i := 0) rfl
        have k1 := (unhide HR).cell (i := 1) rfl
        refine bodyPost_ret (v := .tuple #[vBook (.slice (some ⟨g', 0, none⟩) m' cap') (.slice (some ⟨f', 0, none⟩) mf' fcap'), .int .i64 (doB (bills E, F) (1, id, who, tt, num, many)).2]) (by simp [results, Try.results34, go_sem, vBook, k0, k1]) rfl ?_
        exact ⟨g', m', cap', f', mf', fcap', E', rfl, unhide HE, unhide HFP, unhide HFK⟩
      · have QP2 := hide (unhide QP w2 hk1 (by simp) (by simp) hlt (unhide HB).pbk)
        have d1 : (kd == 1) = false := by simpa using hk1
        clear QI QP HMN hk1
        have q0 := (unhide HB).own.cell (i := 0) rfl
        have q1 := (unhide HB).own.cell (i := 1) rfl
        have op1 := (unhide HB).op.cell (i := 1) rfl
        have op2 := (unhide HB).op.cell (i := 2) rfl
        have op3 := (unhide HB).op.cell (i := 3) rfl
        have op4 := (unhide HB).op.cell (i := 4) rfl
        have op5 := (unhide HB).op.cell (i := 5) rfl
        go_wp2_with fail
        refine (unhide QP2).mono ?_
        rintro e w5 hP
        obtain ⟨g', m', cap', f', mf', fcap', E', rfl, eB, hP, hK⟩ := hP
        have HE := hide eB
        have hres := (unhide HB).res.kept hK (by unfold no3; omega)
        have HPN := hide hP
        have HKK := hide ((unhide HB).kept.trans (hK.mono fun b _ h => h.1))
        clear eB hP hK q0 q1 op1 op2 op3 op4 op5 QP2
        have r0 := hres.cell (i := 0) rfl
        have r1 := hres.cell (i := 1) rfl
        have rf := hres.frozen
        have HR := hide ((hres.set 0 (.slice (some ⟨g', 0, none⟩) m' cap') (by simp)).set 1 (.slice (some ⟨f', 0, none⟩) mf' fcap') (by simp))
        have HFP := hide ((((unhide HPN).far (b := w.heap.size + 2) (i := 0) (u := .slice (some ⟨g', 0, none⟩) m' cap') (by unfold no3; omega)).far (b := w.heap.size + 2) (i := 1) (u := .slice (some ⟨f', 0, none⟩) mf' fcap') (by unfold no3; omega)).mono (A' := A) (fun _ _ h => h.1))
        have HFK := hide (keptOr ((((unhide HKK).mono (T' := fun k => A k ∨ w.heap.size ≤ k) (fun _ _ h => Or.inl h)).setCell (p := ⟨w.heap.size + 2, 0, none⟩) (Or.inr (by show w.heap.size ≤ w.heap.size + 2; omega)) (.slice (some ⟨g', 0, none⟩) m' cap')).setCell (p := ⟨w.heap.size + 2, 1, none⟩) (Or.inr (by show w.heap.size ≤ w.heap.size + 2; omega)) (.slice (some ⟨f', 0, none⟩) mf' fcap')))
        unfold vBook
        go_wp2
        have k0 := (unhide HR).cell (i := 0) rfl
        have k1 := (unhide HR).cell (i := 1) rfl
        refine bodyPost_ret (v := .tuple #[vBook (.slice (some ⟨g', 0, none⟩) m' cap') (.slice (some ⟨f', 0, none⟩) mf' fcap'), .int .i64 (doB (bills E, F) (kd, id, who, tt, num, many)).2]) (by simp [results, Try.results34, go_sem, vBook, k0, k1]) rfl ?_
        exact ⟨g', m', cap', f', mf', fcap', E', rfl, unhide HE, unhide HFP, unhide HFK⟩

/-- What a whole call that does ops tells. -/
def DAns (w : World) (b : BkT) (c : Value) (e : Ending) (w' : World) : Prop :=
  ∃ g m cap f mf fcap E, e = .returned (.tuple #[vBook (.slice (some ⟨g, 0, none⟩) m cap) (.slice (some ⟨f, 0, none⟩) mf fcap), c]) ∧ bills E = b.1 ∧ PBk (fun k => w.heap.size ≤ k) w' g m cap f mf fcap E b.2 ∧ Below w.heap.size w w'

set_option maxRecDepth 100000 in
set_option maxHeartbeats 8000000 in
theorem implDoBill_any (bv fv : Value) (b : BkT) (kd id : Int) (who tt : ByteArray) (num many : Int) (w : World) (h : BkIn w bv fv b) (hbd : Bd b) :
    Calls Try.prog 8 #[vBook bv fv, vBillOp kd id who tt num many] w fun e w' => DAns w (doB b (kd, id, who, tt, num, many)).1 (.int .i64 (doB b (kd, id, who, tt, num, many)).2) e w' := by
  obtain ⟨L, F⟩ := b
  have HV := hide h
  have h' := h
  obtain ⟨⟨ao, cap0, rfl, -⟩, ⟨fo, fcap0, rfl, -⟩⟩ := h'
  dsimp only at HV ⊢
  obtain ⟨V1, eV1⟩ : ∃ V, V = ((w.alloc (.cells #[.slice ao L.length cap0, .slice fo F.length fcap0] 27)).alloc (.cells #[.int .i64 kd, .int .i64 id, .string who, .string tt, .int .i64 num, .int .i64 many] 34)).alloc (.cells #[.slice none 0 0, .slice none 0 0] 27) := ⟨_, rfl⟩
  have hb0 := Below.step (Below.step (Below.alloc1 w (.cells #[.slice ao L.length cap0, .slice fo F.length fcap0] 27)) (Below.alloc1 _ (.cells #[.int .i64 kd, .int .i64 id, .string who, .string tt, .int .i64 num, .int .i64 many] 34))) (Below.alloc1 _ (.cells #[.slice none 0 0, .slice none 0 0] 27))
  have h2 := ownV_alloc (w.alloc (.cells #[.slice ao L.length cap0, .slice fo F.length fcap0] 27)) #[.int .i64 kd, .int .i64 id, .string who, .string tt, .int .i64 num, .int .i64 many] 34
  have h3 := ownV_alloc ((w.alloc (.cells #[.slice ao L.length cap0, .slice fo F.length fcap0] 27)).alloc (.cells #[.int .i64 kd, .int .i64 id, .string who, .string tt, .int .i64 num, .int .i64 many] 34)) #[.slice none 0 0, .slice none 0 0] 27
  have h1 := ((ownV_alloc w #[.slice ao L.length cap0, .slice fo F.length fcap0] 27).alloc (.cells #[.int .i64 kd, .int .i64 id, .string who, .string tt, .int .i64 num, .int .i64 many] 34)).alloc (.cells #[.slice none 0 0, .slice none 0 0] 27)
  replace h2 := h2.alloc (.cells #[.slice none 0 0, .slice none 0 0] 27)
  simp only [World.size_alloc] at h2 h3
  rw [← eV1] at hb0 h1 h2 h3
  have HW : Hid (Below w.heap.size w V1) := hb0
  have HA : Hid (OwnV V1 w.heap.size [.slice ao L.length cap0, .slice fo F.length fcap0]) := h1
  have HO : Hid (OwnV V1 (w.heap.size + 1) [.int .i64 kd, .int .i64 id, .string who, .string tt, .int .i64 num, .int .i64 many]) := h2
  have HR : Hid (OwnV V1 (w.heap.size + 2) [.slice none 0 0, .slice none 0 0]) := h3
  have Q1 := hide fun V (hV : Below w.heap.size w V) => ownBook_any _ _ (L, F) V ((unhide HV).below hV) hbd
  have Q2 : Hid (∀ (B g f : Nat) (E : List EBl) V, bills E = L → PBk (fun k => B ≤ k) V g L.length L.length f F.length F.length E F → B ≤ V.heap.size → Calls Try.prog 34 #[vBook (.slice (some ⟨g, 0, none⟩) L.length L.length) (.slice (some ⟨f, 0, none⟩) F.length F.length), vBillOp kd id who tt num many] V fun e w' => PAns (fun k => B ≤ k) V (doB (L, F) (kd, id, who, tt, num, many)) e w') := fun B g f E V eE hP hB => by
    have := behindBillOp_any (fun k => B ≤ k) g L.length L.length f F.length F.length E F kd id who tt num many V hP (fun k hk => by omega) (by rw [eE]; exact hbd)
    rwa [eE] at this
  clear h hb0 h1 h2 h3 hbd
  generalize doB (L, F) (kd, id, who, tt, num, many) = Z at *
  unfold vBook at Q1
  unfold vBook vBillOp at Q2
  unfold vBook vBillOp
  dsimp only at Q1
  go_enter Try.func8, Try.ntmps8
  go_upto_region 1 with (fail)
  rw [← eV1]
  clear eV1
  have hlt := (unhide HR).lt
  have a0 := (unhide HA).cell (i := 0) rfl
  have a1 := (unhide HA).cell (i := 1) rfl
  have o0 := (unhide HO).cell (i := 0) rfl
  have o1 := (unhide HO).cell (i := 1) rfl
  have o2 := (unhide HO).cell (i := 2) rfl
  have o3 := (unhide HO).cell (i := 3) rfl
  have o4 := (unhide HO).cell (i := 4) rfl
  have o5 := (unhide HO).cell (i := 5) rfl
  go_region_held3 (fun w' => w'.cell? ⟨w.heap.size, 0, none⟩ = some (.slice ao L.length cap0) ∧ w'.cell? ⟨w.heap.size, 1, none⟩ = some (.slice fo F.length fcap0) ∧ w'.cell? ⟨w.heap.size + 1, 0, none⟩ = some (.int .i64 kd) ∧ w'.cell? ⟨w.heap.size + 1, 1, none⟩ = some (.int .i64 id) ∧ w'.cell? ⟨w.heap.size + 1, 2, none⟩ = some (.string who) ∧ w'.cell? ⟨w.heap.size + 1, 3, none⟩ = some (.string tt) ∧ w'.cell? ⟨w.heap.size + 1, 4, none⟩ = some (.int .i64 num) ∧ w'.cell? ⟨w.heap.size + 1, 5, none⟩ = some (.int .i64 many)) (go_keep) (first
    | (go_at_call 35; refine (unhide Q1 _ (by first | exact unhide HW | exact (unhide HW).drew)).mono ?_; rintro e wa ⟨g, f, E, rfl, eE, hP, hb⟩; have hP' : PBk (fun k => V1.heap.size ≤ k) wa g L.length L.length f F.length F.length E F := hP; (first | (have hbb : Below V1.heap.size V1 wa := hb) | (have hbb : Below V1.heap.size V1 wa := below_undrewA hb)); replace HW := hide (Below.step (unhide HW) hbb); replace HA := hide ((unhide HA).step hbb); replace HO := hide ((unhide HO).step hbb); replace HR := hide ((unhide HR).step hbb); have HPB := hide hP'; have EE := hide eE; have hVa := hbb.size; have t0 := (unhide HA).cell (i := 0) rfl; have t1 := (unhide HA).cell (i := 1) rfl; have t2 := (unhide HO).cell (i := 0) rfl; have t3 := (unhide HO).cell (i := 1) rfl; have t4 := (unhide HO).cell (i := 2) rfl; have t5 := (unhide HO).cell (i := 3) rfl; have t6 := (unhide HO).cell (i := 4) rfl; have t7 := (unhide HO).cell (i := 5) rfl; clear hb hbb hP hP' eE)
    | (go_at_call 34; refine (unhide Q2 V1.heap.size g f E _ (unhide EE) (by first | exact unhide HPB | exact (unhide HPB).step (Below.refl _ _).drew) (by first | exact hVa)).mono ?_; rintro e wb hPA; obtain ⟨g', m', cap', f', mf', fcap', E', rfl, eE', hP', hK⟩ := hPA; (first | (have hKK : Kept (fun k => V1.heap.size ≤ k) wa wb := hK) | (have hKK : Kept (fun k => V1.heap.size ≤ k) wa wb := ⟨hK.os, hK.tape, hK.output, hK.size, hK.block⟩)); replace HW := hide ((unhide HW).trans (hKK.below (B := w.heap.size) (unhide HW).size (fun b e => by omega))); replace HA := hide ((unhide HA).kept hKK (by omega)); replace HO := hide ((unhide HO).kept hKK (by omega)); replace HR := hide ((unhide HR).kept hKK (by omega)); have HP9 := hide hP'; have EE9 := hide eE'; have t0 := (unhide HA).cell (i := 0) rfl; have t1 := (unhide HA).cell (i := 1) rfl; have t2 := (unhide HO).cell (i := 0) rfl; have t3 := (unhide HO).cell (i := 1) rfl; have t4 := (unhide HO).cell (i := 2) rfl; have t5 := (unhide HO).cell (i := 3) rfl; have t6 := (unhide HO).cell (i := 4) rfl; have t7 := (unhide HO).cell (i := 5) rfl; have r0 := (unhide HR).cell (i := 0) rfl; have r1 := (unhide HR).cell (i := 1) rfl; have rf := (unhide HR).frozen; have zz1 : ¬ w.heap.size + 2 = w.heap.size := (by omega); have zz2 : ¬ w.heap.size + 2 = w.heap.size + 1 := (by omega); clear hK hKK hP' eE'; unfold vBook))
  all_goals
    have HR2 := hide (((unhide HR).set 0 (.slice (some ⟨g', 0, none⟩) m' cap') (by simp)).set 1 (.slice (some ⟨f', 0, none⟩) mf' fcap') (by simp))
    have HP2 := hide ((((unhide HP9).far (b := w.heap.size + 2) (i := 0) (u := .slice (some ⟨g', 0, none⟩) m' cap') (by omega)).far (b := w.heap.size + 2) (i := 1) (u := .slice (some ⟨f', 0, none⟩) mf' fcap') (by omega)).mono (A' := fun k => w.heap.size ≤ k) (fun _ _ h => by omega))
    have HW2 := hide (((unhide HW).setCell (p := ⟨w.heap.size + 2, 0, none⟩) (by show w.heap.size ≤ w.heap.size + 2; omega) (.slice (some ⟨g', 0, none⟩) m' cap')).setCell (p := ⟨w.heap.size + 2, 1, none⟩) (by show w.heap.size ≤ w.heap.size + 2; omega) (.slice (some ⟨f', 0, none⟩) mf' fcap'))
    go_wp2
    have k0 := (unhide HR2).cell (i := 0) rfl
    have k1 := (unhide HR2).cell (i := 1) rfl
    first
      | exact bodyPost_ret (v := .tuple #[vBook (.slice (some ⟨g', 0, none⟩) m' cap') (.slice (some ⟨f', 0, none⟩) mf' fcap'), .int .i64 Z.2]) (by simp [results, Try.results8, go_sem, vBook, k0, k1]) rfl ⟨g', m', cap', f', mf', fcap', E', rfl, unhide EE9, unhide HP2, unhide HW2⟩
      | exact bodyPost_ret (v := .tuple #[vBook (.slice (some ⟨g', 0, none⟩) m' cap') (.slice (some ⟨f', 0, none⟩) mf' fcap'), .int .i64 Z.2]) (by simp [results, Try.results8, go_sem, vBook, k0, k1]) rfl ⟨g', m', cap', f', mf', fcap', E', rfl, unhide EE9, (unhide HP2).step (Below.refl _ _).drew, (unhide HW2).drew⟩

end Go.Proofs.Ytdcbonfhakdhhaa
