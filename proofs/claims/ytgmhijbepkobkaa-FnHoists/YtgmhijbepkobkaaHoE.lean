/- The machine's next: goes on to the first signal that may be given. -/
import Derived.Test.YtgmhijbepkobkaaHoD
import Derived.Test.YtgmhijbepkobkaaRSignal
import Derived.Deep.RegionHeld3
import Derived.Deep.DeepCutAuto
import Derived.Deep.Cut
import Derived.BigRegion
namespace Go.Proofs.Ytgmhijbepkobkaa
open Go.RowKit

section
variable {α : Type} [Inhabited α] {n : Nat} {enc : α → Nat → Value} {w : World} {ba : Option Addr} {m cap k : Nat} {L : List α}
theorem recs_len1 (h : RecsIn n enc w (.slice ba m cap) L) : L.length = m ∧ m ≤ cap ∧ cap ≤ maxLen := by
  obtain ⟨ao, c, e, h1, h2, _⟩ := h
  simp only [Value.slice.injEq] at e
  obtain ⟨rfl, rfl, rfl⟩ := e
  exact ⟨rfl, h1, h2⟩
theorem recs_drop1 (h : RecsIn n enc w (.slice ba m cap) L) : RecsIn n enc w (.slice (if cap = k then ba else ba.map (·.add (k * n))) (m - k) (cap - k)) (L.drop k) := by
  obtain ⟨hm, hc, hx⟩ := recs_len1 h
  obtain ⟨ao, c, e, _, _, h3⟩ := h
  simp only [Value.slice.injEq] at e
  obtain ⟨rfl, _, rfl⟩ := e
  refine ⟨_, _, by rw [List.length_drop, hm], by rw [List.length_drop]; omega, by omega, fun i hi => ?_⟩
  rw [List.length_drop] at hi
  obtain ⟨b, o, rfl, hcl⟩ := h3 (k + i) (by omega)
  refine ⟨b, o + k * n, ?_, fun j hj => ?_⟩
  · rw [if_neg (by omega), Option.map_some, Go.WideShapes.add_plain]
  · rw [show o + k * n + (i * n + j) = o + ((k + i) * n + j) by rw [Nat.add_mul]; omega, hcl j hj, getD_lt (by omega), getD_lt (by rw [List.length_drop]; omega), List.getElem_drop]
end

theorem slice_sig {ba : Option Addr} {n c n' c' : Nat} (en : n = n' + 1) (ec : c = c' + 1) (V : World) : (Instr.slice 38 (.slice ba n c) (some (.int .i64 1)) none none).run Try.prog V = .ok (.slice (if c = 1 then ba else ba.map (·.add (1 * 2))) n' c') V := by
  subst en ec
  simp [go_sem]
  intro hh
  omega
theorem sliceAt_sig {ba : Option Addr} {n c n' c' : Nat} (en : n = n' + 1) (ec : c = c' + 1) (V : World) : (Instr.sliceAt 38 (.slice ba n c) (some (.int .i64 1)) none none).run Try.prog V = .ok (.slice (if c = 1 then ba else ba.map (·.add (1 * 2))) n' c') V := by
  subst en ec
  simp [go_sem]
  intro hh
  omega
theorem slice_bool {ba : Option Addr} {n c n' c' : Nat} (en : n = n' + 1) (ec : c = c' + 1) (V : World) : (Instr.slice 46 (.slice ba n c) (some (.int .i64 1)) none none).run Try.prog V = .ok (.slice (if c = 1 then ba else ba.map (·.add 1)) n' c') V := by
  subst en ec
  simp [go_sem]
  intro hh
  omega
theorem sliceAt_bool {ba : Option Addr} {n c n' c' : Nat} (en : n = n' + 1) (ec : c = c' + 1) (V : World) : (Instr.sliceAt 46 (.slice ba n c) (some (.int .i64 1)) none none).run Try.prog V = .ok (.slice (if c = 1 then ba else ba.map (·.add 1)) n' c') V := by
  subst en ec
  simp [go_sem]
  intro hh
  omega

/-- What is told of signals, in their order, and the hoist behind them. -/
def cdS : Ho → List SignalT → List Bool
  | _, [] => []
  | h, s :: L => (sigH h s.1 s.2).2 :: cdS (sigH h s.1 s.2).1 L
def stS : Ho → List SignalT → Ho
  | h, [] => h
  | h, s :: L => stS (sigH h s.1 s.2).1 L
theorem cdS_len : ∀ (L : List SignalT) (h : Ho), (cdS h L).length = L.length
  | [], _ => rfl
  | s :: L, h => by simp [cdS, cdS_len L]
theorem sig_no {h : Ho} {k m : Int} (ho : hoB h = true) (e : mayB h k m = false) : sigH h k m = (h, false) := by
  rw [sig_step h k m ho, e]; simp
theorem sig_yes {h : Ho} {k m : Int} (ho : hoB h = true) (e : mayB h k m = true) : sigH h k m = ((behH h k m).at (nxQ h.q (behH h k m) k), true) := by
  rw [sig_step h k m ho, e]; simp
theorem cdS_skip {h : Ho} (ho : hoB h = true) (M : List SignalT) : ∀ P : List SignalT, (∀ s ∈ P, mayB h s.1 s.2 = false) → cdS h (P ++ M) = List.replicate P.length false ++ cdS h M ∧ stS h (P ++ M) = stS h M
  | [], _ => ⟨rfl, rfl⟩
  | s :: P, hP => by
    have e := sig_no ho (hP s (by simp))
    have ih := cdS_skip ho M P (fun x hx => hP x (by simp [hx]))
    constructor
    · show (sigH h s.1 s.2).2 :: cdS (sigH h s.1 s.2).1 (P ++ M) = _
      rw [e]
      dsimp only
      rw [ih.1, List.length_cons, List.replicate_succ, List.cons_append]
    · show stS (sigH h s.1 s.2).1 (P ++ M) = _
      rw [e]
      exact ih.2

/-- The codes told so far, the rest not told yet. -/
def cds (D : List Bool) (n : Nat) : List Value := (D ++ List.replicate n false).map Value.bool
theorem cds_len (D : List Bool) (n : Nat) : (cds D n).length = D.length + n := by simp [cds]
theorem cds_at (D : List Bool) (n : Nat) (h : 0 < n) : (cds D n)[D.length]? = some (.bool false) := by
  obtain ⟨m, rfl⟩ : ∃ m, n = m + 1 := ⟨n - 1, by omega⟩
  simp [cds, List.replicate_succ]
theorem cds_set (D : List Bool) (n : Nat) (b : Bool) : (cds D (n + 1)).set D.length (.bool b) = cds (D ++ [b]) n := by
  simp [cds, List.replicate_succ]

/-- The machine in memory: its hoist is h, the signals that are still to come are L, D is told. -/
def Wn (w0 w : World) (gw gT : Nat) (h : Ho) (L : List SignalT) (D : List Bool) : Prop :=
  ∃ (ao : Option Addr) (n c : Nat) (a2 : Option Addr) (ct : Nat), OwnV w gw [.int .i64 h.q, .int .i64 h.ld, .int .i64 h.he, .int .i64 h.lw, .int .i64 h.hg, .int .i64 h.lm, .int .i64 h.rs, .slice ao n c, .slice a2 n ct] ∧
    RSignal w0 (.slice ao n c) L ∧ n ≤ ct ∧ ct ≤ maxLen ∧ (0 < n → a2 = some ⟨gT, D.length, none⟩) ∧ OwnV w gT (cds D n)
/-- What next tells. -/
def NxA (w0 w : World) (gw gT : Nat) (h : Ho) (L : List SignalT) (D : List Bool) (e : Ending) (w' : World) : Prop :=
  ((∀ s ∈ L, mayB h s.1 s.2 = false) ∧ e = .returned (.int .i64 0) ∧ Wn w0 w' gw gT h [] (D ++ List.replicate L.length false)
    ∨ ∃ P s M, L = P ++ s :: M ∧ (∀ x ∈ P, mayB h x.1 x.2 = false) ∧ mayB h s.1 s.2 = true ∧ e = .returned (.int .i64 s.1) ∧ Wn w0 w' gw gT (behH h s.1 s.2) M (D ++ List.replicate P.length false ++ [true]))
  ∧ Kept (fun b => b = gw ∨ b = gT) w w'
theorem kept_w0 {w0 w w' : World} {gw gT : Nat} (h : Below w0.heap.size w0 w) (k : Kept (fun b => b = gw ∨ b = gT) w w') (hw : w0.heap.size ≤ gw) (hT : w0.heap.size ≤ gT) : Below w0.heap.size w0 w' :=
  h.trans (k.below h.size (fun b e => by omega))

theorem meetW {K : Act → World → Prop} {Q : Exit → Act → World → Prop} {e : Exit} {a : Act} {W : World} (p : World → Prop) (hp : p W) (h : ∀ W', p W' → Exit.then K Q e a W') : Exit.then K Q e a W := h W hp
theorem Kept.drew1 {T : Nat → Prop} {w w' : World} (h : Kept T w w') : Kept T w w'.drew := h.trans (kept_of_below (Below.refl _ _).drew)

set_option maxRecDepth 100000 in
set_option maxHeartbeats 16000000 in
theorem next_any (w0 : World) (gw gT : Nat) (h : Ho) (L : List SignalT) (D : List Bool) (w : World) (ho : hoB h = true) (hB0 : Below w0.heap.size w0 w) (hgw : w0.heap.size ≤ gw) (hgT : w0.heap.size ≤ gT) (hne : gw ≠ gT) (hW : Wn w0 w gw gT h L D) :
    Calls Try.prog 63 #[.pointer (some ⟨gw, 0, none⟩)] w (NxA w0 w gw gT h L D) := by
  have HM := hide fun k m W => mayGive_any h.q h.ld h.he h.lw h.hg h.lm h.rs k m W
  have HBS := hide fun k m W (hk : 1 ≤ k ∧ k ≤ 7) => behindSignal_any h.q h.ld h.he h.lw h.hg h.lm h.rs k m W (by have := hoB_bd ho; omega) hk
  have HK := hide (Kept.refl (fun b => b = gw ∨ b = gT) w)
  have HB0 := hide hB0
  have HWn := hide hW
  have HO := hide ho
  have hgwl : gw < w.heap.size := by obtain ⟨_, _, _, _, _, ho, _⟩ := hW; exact ho.lt
  have hgTl : gT < w.heap.size := by obtain ⟨_, _, _, _, _, _, _, _, _, _, ho⟩ := hW; exact ho.lt
  clear ho hB0 hW
  unfold vHoist vSignal at HM HBS
  go_enter Try.func63, Try.ntmps63
  go_wp2_with fail
  go_loopg [] L.length (fun g wr => ∃ P M, g = M.length ∧ Hid (L = P ++ M) ∧ Hid (∀ s ∈ P, mayB h s.1 s.2 = false) ∧ Hid (Wn w0 wr gw gT h M (D ++ List.replicate P.length false)) ∧ Hid (Kept (fun b => b = gw ∨ b = gT) w wr) ∧ Hid (Below w0.heap.size w0 wr))
  case atStart => exact ⟨[], L, rfl, hide rfl, hide (fun s hs => absurd hs (by simp)), by simpa using HWn, HK, HB0⟩
  case round =>
  clear HWn HK HB0
  obtain ⟨P, M, rfl, hL, hP, HWn, HK, HB0⟩ := hrel
  have hgwr : gw < wr.heap.size := by have := (unhide HK).size; omega
  have hgTr : gT < wr.heap.size := by have := (unhide HK).size; omega
  cases M with
  | nil =>
    obtain ⟨ao, n, c, a2, ct, ho, hr, h1, h2, h3, h4⟩ := unhide HWn
    obtain ⟨hn, _, _⟩ := recs_len1 hr
    obtain rfl : n = 0 := hn.symm
    have c7 := ho.cell (i := 7) rfl
    clear ho hr h1 h2 h3 h4 hn
    go_wp2
    go_ret
    have eL := unhide hL
    rw [List.append_nil] at eL
    subst eL
    exact ⟨Or.inl ⟨unhide hP, rfl, unhide HWn⟩, unhide HK⟩
  | cons s M =>
    obtain ⟨k, m⟩ := s
    obtain ⟨ao, n, c, a2, ct, ho, hr, h1, h2, h3, h4⟩ := unhide HWn
    obtain ⟨hn, hnc, hcm⟩ := recs_len1 hr
    have hn0 : 0 < n := by rw [← hn]; simp
    have hnM : Hid (n = M.length + 1) := hn.symm
    have hRS := hide hr
    obtain ⟨b, o, x0, x1, eao, r0, r1, EX⟩ : ∃ b o x0 x1, ao = some ⟨b, o, none⟩ ∧ w0.cell? ⟨b, o, none⟩ = some (.int .i64 x0) ∧ w0.cell? ⟨b, o + 1, none⟩ = some (.int .i64 x1) ∧ Hid (x0 = k ∧ x1 = m) := by
      obtain ⟨_, _, e, _, _, h3⟩ := hr
      simp only [Value.slice.injEq] at e
      obtain ⟨rfl, _, _⟩ := e
      obtain ⟨b, o, x0, x1, e, q0, q1, ex⟩ := recSignalAt h3 (k := 0) (by simp)
      rw [Nat.zero_mul, Nat.add_zero] at q0 q1
      have ex' := unhide ex
      simp at ex'
      exact ⟨b, o, x0, x1, e, q0, q1, ex'.1.symm, ex'.2.symm⟩
    obtain ⟨rfl, rfl⟩ := unhide EX
    subst eao
    clear EX
    have hbw : b < w0.heap.size := lt_of_cell r0
    have e2 := h3 hn0
    obtain ⟨t, et⟩ : ∃ t, t = (D ++ List.replicate P.length false).length := ⟨_, rfl⟩
    rw [← et] at e2
    have Ht := hide et
    subst e2
    have HX := hide ho
    have HT := hide h4
    clear ho hr h3 h4 et hn HWn
    have b0 := ((unhide HB0).cell (p := ⟨b, o, none⟩) hbw).trans r0
    have b1 := ((unhide HB0).cell (p := ⟨b, o + 1, none⟩) hbw).trans r1
    have c7 := (unhide HX).cell (i := 7) rfl
    have hnI : (0 : Int) < (n : Int) := by omega
    go_upto_region 3 with (fail)
    obtain ⟨gs, egs⟩ : ∃ z, z = wr.heap.size := ⟨_, rfl⟩
    obtain ⟨V1, eV⟩ : ∃ z, z = wr.alloc (.cells #[.int .i64 x0, .int .i64 x1] 44) := ⟨_, rfl⟩
    have hb := Below.alloc1 wr (.cells #[.int .i64 x0, .int .i64 x1] 44)
    have HS := hide (ownV_alloc wr #[.int .i64 x0, .int .i64 x1] 44)
    rw [← eV] at hb HS ⊢
    rw [← egs] at HS ⊢
    have hgs1 : gw < gs := by omega
    have hgs2 : gT < gs := by omega
    replace HX := hide (OwnV.step (unhide HX) hb)
    replace HT := hide (OwnV.step (unhide HT) hb)
    replace HB0 := hide (Below.step (unhide HB0) hb)
    replace HK := hide ((unhide HK).trans (kept_of_below hb))
    clear hb eV egs b0 b1 c7 hgwr hgTr
    have q0 := fun x' : Gr V1 => gr_cell ((unhide HX).cell (i := 0) rfl) x'
    have q1 := fun x' : Gr V1 => gr_cell ((unhide HX).cell (i := 1) rfl) x'
    have q2 := fun x' : Gr V1 => gr_cell ((unhide HX).cell (i := 2) rfl) x'
    have q3 := fun x' : Gr V1 => gr_cell ((unhide HX).cell (i := 3) rfl) x'
    have q4 := fun x' : Gr V1 => gr_cell ((unhide HX).cell (i := 4) rfl) x'
    have q5 := fun x' : Gr V1 => gr_cell ((unhide HX).cell (i := 5) rfl) x'
    have q6 := fun x' : Gr V1 => gr_cell ((unhide HX).cell (i := 6) rfl) x'
    have p0 := fun x' : Gr V1 => gr_cell ((unhide HS).cell (i := 0) rfl) x'
    have p1 := fun x' : Gr V1 => gr_cell ((unhide HS).cell (i := 1) rfl) x'
    obtain ⟨bb, ebb⟩ : ∃ z, mayB h x0 x1 = z := ⟨_, rfl⟩
    have hHm : (⟨h.q, h.ld, h.he, h.lw, h.hg, h.lm, h.rs⟩ : Ho) = h := rfl
    have S1 := hide fun x' : Gr V1 => (unhide HM) x0 x1 x'.val
    rw [hHm, ebb] at S1
    have HE := hide ebb
    clear ebb hHm
    have gsome := gr_some V1
    refine wp_region_grown (by kernel_rfl) (by kernel_rfl) ?_
    repeat (go_big_quiet_step (fail))
    go_big_quiet_want
    go_big_quiet_op
    go_big_quiet_call (exact calls_grown (unhide S1 _))
    repeat (go_big_quiet_step (fail))
    refine wpQuiet_nil ?_
    intro V2 hw1
    obtain ⟨z', hz⟩ := hw1
    have hb : Below V1.heap.size V1 V2 := hz ▸ z'.ok
    clear hz gsome q0 q1 q2 q3 q4 q5 q6 p0 p1 S1
    replace HX := hide (OwnV.step (unhide HX) hb)
    replace HT := hide (OwnV.step (unhide HT) hb)
    replace HS := hide (OwnV.step (unhide HS) hb)
    replace HB0 := hide (Below.step (unhide HB0) hb)
    replace HK := hide ((unhide HK).trans (kept_of_below hb))
    clear hb
    obtain ⟨n', en'⟩ : ∃ n', n = n' + 1 := ⟨n - 1, by omega⟩
    have Hn' := hide en'
    have HT0 := hide (show (cds (D ++ List.replicate P.length false) n)[t]? = some (.bool false) by rw [unhide Ht]; exact cds_at _ _ hn0)
    have HT1 := hide (show (cds (D ++ List.replicate P.length false) n).set t (.bool bb) = cds (D ++ List.replicate P.length false ++ [bb]) n' by rw [unhide Ht, en']; exact cds_set _ _ _)
    clear en'
    have c8 := (unhide HX).cell (i := 8) rfl
    have t0 := (unhide HT).cell (unhide HT0)
    have tf := (unhide HT).frozen t
    go_upto_region 5 with (fail)
    obtain ⟨V3, eV⟩ : ∃ z, z = V2.setCell ⟨gT, t, none⟩ (.bool bb) := ⟨_, rfl⟩
    have htl : t < (cds (D ++ List.replicate P.length false) n).length := (List.getElem?_eq_some_iff.1 (unhide HT0)).1
    have HT3 : Hid (OwnV V3 gT (cds (D ++ List.replicate P.length false ++ [bb]) n')) := by
      rw [eV, ← unhide HT1]
      exact (unhide HT).set t _ htl
    have HX3 := hide (show OwnV V3 gw _ by rw [eV]; exact (unhide HX).other (by dsimp only; exact hne) _)
    have HS3 := hide (show OwnV V3 gs _ by rw [eV]; exact (unhide HS).other (by dsimp only; omega) _)
    have HB3 : Hid (Below w0.heap.size w0 V3) := by rw [eV]; exact (unhide HB0).setCell (by dsimp only; omega) _
    have HK3 : Hid (Kept (fun b => b = gw ∨ b = gT) w V3) := by rw [eV]; exact (unhide HK).setCell (Or.inr rfl) _
    rw [← eV]
    clear eV htl HX HS HT HB0 HK HT0 HT1 c8 t0 tf
    obtain ⟨c', ec'⟩ : ∃ c', c = c' + 1 := ⟨c - 1, by omega⟩
    obtain ⟨ct', et'⟩ : ∃ c', ct = c' + 1 := ⟨ct - 1, by omega⟩
    have rs1 := fun V => slice_sig (ba := some ⟨b, o, none⟩) (unhide Hn') ec' V
    have rs2 := fun V => sliceAt_sig (ba := some ⟨b, o, none⟩) (unhide Hn') ec' V
    have rt1 := fun V => slice_bool (ba := some ⟨gT, t, none⟩) (unhide Hn') et' V
    have rt2 := fun V => sliceAt_bool (ba := some ⟨gT, t, none⟩) (unhide Hn') et' V
    have hdr := recs_drop1 (k := 1) (unhide hRS)
    obtain ⟨A1, eA1⟩ : ∃ z, z = (if c = 1 then some ⟨b, o, none⟩ else (some (⟨b, o, none⟩ : Addr)).map (·.add (1 * 2))) := ⟨_, rfl⟩
    obtain ⟨A2, eA2⟩ : ∃ z, z = (if ct = 1 then some ⟨gT, t, none⟩ else (some (⟨gT, t, none⟩ : Addr)).map (·.add 1)) := ⟨_, rfl⟩
    rw [← eA1] at rs1 rs2 hdr
    rw [← eA2] at rt1 rt2
    have hA2 : Hid (0 < n' → A2 = some ⟨gT, t + 1, none⟩) := by
      show _ → _
      intro hp
      have := unhide Hn'
      rw [eA2, if_neg (by omega)]
      simp [Addr.add]
    rw [show n - 1 = n' by have := unhide Hn'; omega, show c - 1 = c' by omega] at hdr
    have hRS' : Hid (RSignal w0 (.slice A1 n' c') M) := hdr
    have hct : n' ≤ ct' := by have := unhide Hn'; omega
    have hctm : ct' ≤ maxLen := by omega
    clear hdr eA1 eA2 ec' et' hRS h1 h2 hnc hcm r0 r1 hbw hnM Hn'
    have x7 := (unhide HX3).cell (i := 7) rfl
    have x8 := (unhide HX3).cell (i := 8) rfl
    have f7 := (unhide HX3).frozen 7
    have f8 := (unhide HX3).frozen 8
    go_wp2_with fail
    have HX4 := hide (((unhide HX3).set 7 (.slice A1 n' c') (by simp)).set 8 (.slice A2 n' ct') (by simp))
    have HT4 := hide (((unhide HT3).other (a := ⟨gw, 7, none⟩) (by dsimp only; omega) (.slice A1 n' c')).other (a := ⟨gw, 8, none⟩) (by dsimp only; omega) (.slice A2 n' ct'))
    have HS4 := hide (((unhide HS3).other (a := ⟨gw, 7, none⟩) (by dsimp only; omega) (.slice A1 n' c')).other (a := ⟨gw, 8, none⟩) (by dsimp only; omega) (.slice A2 n' ct'))
    have HB4 := hide (((unhide HB3).setCell (p := ⟨gw, 7, none⟩) (by dsimp only; omega) (.slice A1 n' c')).setCell (p := ⟨gw, 8, none⟩) (by dsimp only; omega) (.slice A2 n' ct'))
    have HK4 := hide (((unhide HK3).setCell (p := ⟨gw, 7, none⟩) (Or.inl rfl) (.slice A1 n' c')).setCell (p := ⟨gw, 8, none⟩) (Or.inl rfl) (.slice A2 n' ct'))
    go_region
    all_goals
      refine meetW (fun W => OwnV W gw [.int .i64 h.q, .int .i64 h.ld, .int .i64 h.he, .int .i64 h.lw, .int .i64 h.hg, .int .i64 h.lm, .int .i64 h.rs, .slice A1 n' c', .slice A2 n' ct'] ∧ OwnV W gT (cds (D ++ List.replicate P.length false ++ [bb]) n') ∧ OwnV W gs [.int .i64 x0, .int .i64 x1] ∧ Below w0.heap.size w0 W ∧ Kept (fun b => b = gw ∨ b = gT) w W)
        (by first | exact ⟨unhide HX4, unhide HT4, unhide HS4, unhide HB4, unhide HK4⟩ | exact ⟨(unhide HX4).drew, (unhide HT4).drew, (unhide HS4).drew, (unhide HB4).drew, (unhide HK4).drew1⟩) ?_
      rintro V5 ⟨hX, hT, hS, hB, hK⟩
      have HX := hide hX
      have HT := hide hT
      have HS := hide hS
      have HB0 := hide hB
      have HK := hide hK
      clear hX hT hS hB hK HX3 HX4 HT3 HT4 HS3 HS4 HB3 HB4 HK3 HK4 x7 x8 f7 f8 rs1 rs2 rt1 rt2
      cases bb with
      | false =>
        go_wp2
        go_roundg M.length
        case measure => simp
        case rel =>
          refine ⟨P ++ [(x0, x1)], M, rfl, ?_, ?_, ?_, HK, HB0⟩
          · show L = _
            rw [unhide hL]; simp
          · show ∀ s ∈ P ++ [(x0, x1)], _
            intro s hs
            rw [List.mem_append, List.mem_singleton] at hs
            rcases hs with hs | rfl
            · exact unhide hP s hs
            · exact unhide HE
          · refine ⟨A1, n', c', A2, ct', unhide HX, unhide hRS', hct, hctm, fun hp => ?_, ?_⟩
            · rw [unhide hA2 hp, unhide Ht]
              simp
            · have e : D ++ List.replicate (P ++ [(x0, x1)]).length false = D ++ List.replicate P.length false ++ [false] := by simp [List.replicate_succ']
              rw [e]
              exact unhide HT
      | true =>
        have hk := may_nz (unhide HE)
        have HBK := hide fun W => unhide HBS x0 x1 W hk
        obtain ⟨h2, eh2⟩ : ∃ z, z = behH h x0 x1 := ⟨_, rfl⟩
        have hHm : behH (⟨h.q, h.ld, h.he, h.lw, h.hg, h.lm, h.rs⟩ : Ho) x0 x1 = h2 := eh2.symm
        rw [hHm] at HBK
        have Hh2 := hide eh2
        clear hHm eh2 hk
        unfold Ho.v vHoist at HBK
        go_wp2_with fail
        obtain ⟨wd, ewd⟩ : ∃ z, z = V5.drew := ⟨_, rfl⟩
        have hb : Below V5.heap.size V5 wd := by rw [ewd]; exact (Below.refl _ _).drew
        replace HX := hide (OwnV.step (unhide HX) hb)
        replace HT := hide (OwnV.step (unhide HT) hb)
        replace HS := hide (OwnV.step (unhide HS) hb)
        replace HB0 := hide (Below.step (unhide HB0) hb)
        replace HK := hide ((unhide HK).trans (kept_of_below hb))
        clear hb
        refine wp_region_held_drew (S := fun w' => w'.cell? ⟨gs, 0, none⟩ = some (.int .i64 x0) ∧ w'.cell? ⟨gs, 1, none⟩ = some (.int .i64 x1)) (by kernel_rfl) ⟨by rw [← ewd]; exact (unhide HS).cell (i := 0) rfl, by rw [← ewd]; exact (unhide HS).cell (i := 1) rfl⟩ (fun hHeld => ?_)
        rw [← ewd] at hHeld ⊢
        clear ewd
        refine wpAnyH_take (i := 0) (v := ?_) rfl (by kernel_rfl) (by kernel_rfl) (by kernel_rfl) (fun _ _ _ h => h) (Or.inl ⟨by rfl, ?_⟩) (by assumption) ?_
        rotate_left
        · intro wy hSw
          obtain ⟨hS0, hS1⟩ := hSw
          go_simp
          try with_reducible rfl
        try simp only [Act.put, List.getElem_toArray, List.getElem_cons_zero, List.setIfInBounds_toArray, List.set_cons_zero, List.set_cons_succ]
        refine wpAnyH_take (i := 1) (v := ?_) rfl (by kernel_rfl) (by kernel_rfl) (by kernel_rfl) (fun _ _ _ h => h) (Or.inl ⟨by rfl, ?_⟩) (by assumption) ?_
        rotate_left
        · intro wy hSw
          obtain ⟨hS0, hS1⟩ := hSw
          go_simp
          try with_reducible rfl
        try simp only [Act.put, List.getElem_toArray, List.getElem_cons_succ, List.getElem_cons_zero, List.setIfInBounds_toArray, List.set_cons_zero, List.set_cons_succ]
        refine wpAnyH_take (i := 2) (v := ?_) rfl (by kernel_rfl) (by kernel_rfl) (by kernel_rfl) (fun _ _ _ h => h) (Or.inl ⟨by rfl, ?_⟩) (by assumption) ?_
        rotate_left
        · intro wy hSw
          obtain ⟨hS0, hS1⟩ := hSw
          go_simp
          try with_reducible rfl
        try simp only [Act.put, List.getElem_toArray, List.getElem_cons_succ, List.getElem_cons_zero, List.setIfInBounds_toArray, List.set_cons_zero, List.set_cons_succ]
        refine wpAnyH_take (i := 3) (v := ?_) rfl (by kernel_rfl) (by kernel_rfl) (by kernel_rfl) (fun _ _ _ h => h) (Or.inl ⟨by rfl, ?_⟩) (by assumption) ?_
        rotate_left
        · intro wy hSw
          obtain ⟨hS0, hS1⟩ := hSw
          go_simp
          try with_reducible rfl
        try simp only [Act.put, List.getElem_toArray, List.getElem_cons_succ, List.getElem_cons_zero, List.setIfInBounds_toArray, List.set_cons_zero, List.set_cons_succ]
        refine wpAnyH_take (i := 5) (v := ?_) rfl (by kernel_rfl) (by kernel_rfl) (by kernel_rfl) (fun _ _ _ h => h) (Or.inl ⟨by rfl, ?_⟩) (by assumption) ?_
        rotate_left
        · intro wy hSw
          obtain ⟨hS0, hS1⟩ := hSw
          go_simp
          try with_reducible rfl
        try simp only [Act.put, List.getElem_toArray, List.getElem_cons_succ, List.getElem_cons_zero, List.setIfInBounds_toArray, List.set_cons_zero, List.set_cons_succ]
        have y0 := (unhide HX).cell (i := 0) rfl
        have y1 := (unhide HX).cell (i := 1) rfl
        have y2 := (unhide HX).cell (i := 2) rfl
        have y3 := (unhide HX).cell (i := 3) rfl
        have y4 := (unhide HX).cell (i := 4) rfl
        have y5 := (unhide HX).cell (i := 5) rfl
        have y6 := (unhide HX).cell (i := 6) rfl
        refine wpAnyH_ready (rs := [4]) (by kernel_rfl) (by simp) ?_
        refine AllReadyH.cons rfl (fun K hK => ?_) AllReadyH.nil
        go_simp
        refine hK.out _ _ hHeld (fun hHeld => ?_)
        clear hK K
        try simp only [Act.put, List.setIfInBounds_toArray, List.set_cons_zero, List.set_cons_succ]
        refine wpAnyH_ready (rs := [6]) (by kernel_rfl) (by simp) ?_
        refine AllReadyH.cons rfl (fun K hK => ?_) AllReadyH.nil
        go_simp
        refine (unhide HBK _).mono ?_
        rintro e V6 ⟨rfl, hb⟩
        clear y0 y1 y2 y3 y4 y5 y6
        replace HX := hide (OwnV.step (unhide HX) hb)
        replace HT := hide (OwnV.step (unhide HT) hb)
        replace HS := hide (OwnV.step (unhide HS) hb)
        replace HB0 := hide (Below.step (unhide HB0) hb)
        replace HK := hide ((unhide HK).trans (kept_of_below hb))
        clear hb
        refine hK.out _ _ ⟨(unhide HS).cell (i := 0) rfl, (unhide HS).cell (i := 1) rfl⟩ (fun hHeld => ?_)
        clear hK K
        try simp only [Act.put, List.setIfInBounds_toArray, List.set_cons_zero, List.set_cons_succ]
        refine wpAnyH_take (i := 7) (v := ?_) rfl (by kernel_rfl) (by kernel_rfl) (by kernel_rfl) (fun _ _ _ h => h) (Or.inl ⟨by rfl, ?_⟩) (by assumption) ?_
        rotate_left
        · intro wy hSw
          obtain ⟨hS0, hS1⟩ := hSw
          go_simp
          try with_reducible rfl
        try simp only [Act.put, List.getElem_toArray, List.getElem_cons_succ, List.getElem_cons_zero, List.setIfInBounds_toArray, List.set_cons_zero, List.set_cons_succ]
        refine wpAnyH_take (i := 8) (v := ?_) rfl (by kernel_rfl) (by kernel_rfl) (by kernel_rfl) (fun _ _ _ h => h) (Or.inl ⟨by rfl, ?_⟩) (by assumption) ?_
        rotate_left
        · intro wy hSw
          obtain ⟨hS0, hS1⟩ := hSw
          go_simp
          try with_reducible rfl
        try simp only [Act.put, List.getElem_toArray, List.getElem_cons_succ, List.getElem_cons_zero, List.setIfInBounds_toArray, List.set_cons_zero, List.set_cons_succ]
        have y0 := (unhide HX).cell (i := 0) rfl
        have y1 := (unhide HX).cell (i := 1) rfl
        have y2 := (unhide HX).cell (i := 2) rfl
        have y3 := (unhide HX).cell (i := 3) rfl
        have y4 := (unhide HX).cell (i := 4) rfl
        have y5 := (unhide HX).cell (i := 5) rfl
        have y6 := (unhide HX).cell (i := 6) rfl
        have f0 := (unhide HX).frozen 0
        have f1 := (unhide HX).frozen 1
        have f2 := (unhide HX).frozen 2
        have f3 := (unhide HX).frozen 3
        have f4 := (unhide HX).frozen 4
        have f5 := (unhide HX).frozen 5
        have f6 := (unhide HX).frozen 6
        have HX7 := hide ((((((((unhide HX).set 0 (.int .i64 h2.q) (by simp)).set 1 (.int .i64 h2.ld) (by simp)).set 2 (.int .i64 h2.he) (by simp)).set 3 (.int .i64 h2.lw) (by simp)).set 4 (.int .i64 h2.hg) (by simp)).set 5 (.int .i64 h2.lm) (by simp)).set 6 (.int .i64 h2.rs) (by simp))
        have HT7 := hide ((((((((unhide HT).other (a := ⟨gw, 0, none⟩) (by dsimp only; omega) (.int .i64 h2.q)).other (a := ⟨gw, 1, none⟩) (by dsimp only; omega) (.int .i64 h2.ld)).other (a := ⟨gw, 2, none⟩) (by dsimp only; omega) (.int .i64 h2.he)).other (a := ⟨gw, 3, none⟩) (by dsimp only; omega) (.int .i64 h2.lw)).other (a := ⟨gw, 4, none⟩) (by dsimp only; omega) (.int .i64 h2.hg)).other (a := ⟨gw, 5, none⟩) (by dsimp only; omega) (.int .i64 h2.lm)).other (a := ⟨gw, 6, none⟩) (by dsimp only; omega) (.int .i64 h2.rs))
        have HS7 := hide ((((((((unhide HS).other (a := ⟨gw, 0, none⟩) (by dsimp only; omega) (.int .i64 h2.q)).other (a := ⟨gw, 1, none⟩) (by dsimp only; omega) (.int .i64 h2.ld)).other (a := ⟨gw, 2, none⟩) (by dsimp only; omega) (.int .i64 h2.he)).other (a := ⟨gw, 3, none⟩) (by dsimp only; omega) (.int .i64 h2.lw)).other (a := ⟨gw, 4, none⟩) (by dsimp only; omega) (.int .i64 h2.hg)).other (a := ⟨gw, 5, none⟩) (by dsimp only; omega) (.int .i64 h2.lm)).other (a := ⟨gw, 6, none⟩) (by dsimp only; omega) (.int .i64 h2.rs))
        have HB7 := hide ((((((((unhide HB0).setCell (p := ⟨gw, 0, none⟩) (by dsimp only; omega) (.int .i64 h2.q)).setCell (p := ⟨gw, 1, none⟩) (by dsimp only; omega) (.int .i64 h2.ld)).setCell (p := ⟨gw, 2, none⟩) (by dsimp only; omega) (.int .i64 h2.he)).setCell (p := ⟨gw, 3, none⟩) (by dsimp only; omega) (.int .i64 h2.lw)).setCell (p := ⟨gw, 4, none⟩) (by dsimp only; omega) (.int .i64 h2.hg)).setCell (p := ⟨gw, 5, none⟩) (by dsimp only; omega) (.int .i64 h2.lm)).setCell (p := ⟨gw, 6, none⟩) (by dsimp only; omega) (.int .i64 h2.rs))
        have HK7 := hide ((((((((unhide HK).setCell (p := ⟨gw, 0, none⟩) (Or.inl rfl) (.int .i64 h2.q)).setCell (p := ⟨gw, 1, none⟩) (Or.inl rfl) (.int .i64 h2.ld)).setCell (p := ⟨gw, 2, none⟩) (Or.inl rfl) (.int .i64 h2.he)).setCell (p := ⟨gw, 3, none⟩) (Or.inl rfl) (.int .i64 h2.lw)).setCell (p := ⟨gw, 4, none⟩) (Or.inl rfl) (.int .i64 h2.hg)).setCell (p := ⟨gw, 5, none⟩) (Or.inl rfl) (.int .i64 h2.lm)).setCell (p := ⟨gw, 6, none⟩) (Or.inl rfl) (.int .i64 h2.rs))
        refine wpAnyH_ready (rs := [9]) (by kernel_rfl) (by simp) ?_
        refine AllReadyH.cons rfl (fun K hK => ?_) AllReadyH.nil
        go_simp
        clear y0 f0 y1 f1 y2 f2 y3 f3 y4 f4 y5 f5 y6 f6
        refine hK.out _ _ ⟨(unhide HS7).cell (i := 0) rfl, (unhide HS7).cell (i := 1) rfl⟩ (fun hHeld => ?_)
        clear hK K
        try simp only [Act.put, List.setIfInBounds_toArray, List.set_cons_zero, List.set_cons_succ]
        refine wpAnyH_done (by kernel_rfl) ?_ _
        refine meetW (fun W => OwnV W gw [.int .i64 h2.q, .int .i64 h2.ld, .int .i64 h2.he, .int .i64 h2.lw, .int .i64 h2.hg, .int .i64 h2.lm, .int .i64 h2.rs, .slice A1 n' c', .slice A2 n' ct'] ∧ OwnV W gT (cds (D ++ List.replicate P.length false ++ [true]) n') ∧ OwnV W gs [.int .i64 x0, .int .i64 x1] ∧ Below w0.heap.size w0 W ∧ Kept (fun b => b = gw ∨ b = gT) w W) ⟨unhide HX7, unhide HT7, unhide HS7, unhide HB7, unhide HK7⟩ ?_
        rintro V7 ⟨hX, hT, hS, hB, hK⟩
        have s0 := hS.cell (i := 0) rfl
        have HX := hide hX
        have HT := hide hT
        have HK := hide hK
        clear hX hT hS hB hK HX7 HT7 HS7 HB7 HK7
        go_wp2
        go_ret
        refine ⟨Or.inr ⟨P, (x0, x1), M, unhide hL, unhide hP, unhide HE, rfl, ?_⟩, unhide HK⟩
        show Wn w0 _ gw gT (behH h x0 x1) M _
        rw [← unhide Hh2]
        refine ⟨A1, n', c', A2, ct', unhide HX, unhide hRS', hct, hctm, fun hp => ?_, unhide HT⟩
        rw [unhide hA2 hp, unhide Ht]
        simp
end Go.Proofs.Ytgmhijbepkobkaa
