/- The machine's run: goes from label to label till no signal is left. -/
import Derived.Test.YtgmhijbepkobkaaHoE
import Derived.WalkMore
import Derived.ScopeJumps
import Derived.Deep.QuietTactic
import Derived.BigQuiet
namespace Go.Proofs.Ytgmhijbepkobkaa
open Go.RowKit

/-- By a goto to a label: J; else Q. -/
def jumps (J : Nat → Act → World → Prop) (Q : Exit → Act → World → Prop) : Exit → Act → World → Prop
  | .goto l, a, w => J l a w
  | e, a, w => Q e a w
theorem wp_scope_many {P : Program} {a : Act} {w : World} {Q : Exit → Act → World → Prop} {c : Code} (J : Nat → Nat → Act → World → Prop)
    (first : c.wp P (jumps (fun l a w => ∃ m, J l m a w) Q) a w)
    (pass : ∀ l m a w, J l m a w → ∃ rest, findLabel c l = some rest ∧ rest.wp P (jumps (fun l' a' w' => ∃ m', m' < m ∧ J l' m' a' w') Q) a w) : (Code.scope c).wp P Q a w := by
  intro b k cs
  have hg : ∀ l rest, findLabel c l = some rest → gotoIn l (.inScope c :: k) = some (.code rest :: .inScope c :: k) := by intro l rest hf; simp [gotoIn, hf]
  have key : ∀ n l a w rest, J l n a w → findLabel c l = some rest → ∃ e a' w', Q e a' w' ∧ Arrives P (lone (b.at a (.code rest :: .inScope c :: k)) cs w) b k cs e a' w' := by
    intro n
    induction n using Nat.strongRecOn with
    | _ n ih =>
      intro l a w rest hJ hf
      obtain ⟨rest', hf', hw⟩ := pass l n a w hJ
      rw [hf] at hf'
      cases hf'
      obtain ⟨e, a₁, w₁, hq, harr⟩ := hw b (.inScope c :: k) cs
      cases e with
      | normal => exact ⟨.normal, a₁, w₁, hq, Steps.trans harr (.one step_inScope)⟩
      | exit id => exact ⟨.exit id, a₁, w₁, hq, fun k' hk => harr k' (by simp [exitTo, hk])⟩
      | goto l' =>
        obtain ⟨m', hlt, hJ'⟩ := hq
        obtain ⟨rest2, hf2, _⟩ := pass l' m' a₁ w₁ hJ'
        obtain ⟨e₂, a₂, w₂, hq₂, harr₂⟩ := ih m' hlt l' a₁ w₁ rest2 hJ' hf2
        exact ⟨e₂, a₂, w₂, hq₂, .of_steps (harr _ (hg _ _ hf2)) harr₂⟩
      | ret => exact ⟨_, a₁, w₁, hq, harr⟩
      | panic ch => exact ⟨_, a₁, w₁, hq, harr⟩
      | outgrown => exact ⟨_, a₁, w₁, hq, harr⟩
  obtain ⟨e, a₁, w₁, hq, harr⟩ := first b (.inScope c :: k) cs
  cases e with
  | normal => exact ⟨.normal, a₁, w₁, hq, .head step_scope (Steps.trans harr (.one step_inScope))⟩
  | exit id => exact ⟨.exit id, a₁, w₁, hq, fun k' hk => .head step_scope (harr k' (by simp [exitTo, hk]))⟩
  | goto l' =>
    obtain ⟨m', hJ'⟩ := hq
    obtain ⟨rest2, hf2, _⟩ := pass l' m' a₁ w₁ hJ'
    obtain ⟨e₂, a₂, w₂, hq₂, harr₂⟩ := key _ _ a₁ w₁ _ hJ' hf2
    exact ⟨e₂, a₂, w₂, hq₂, .of_steps (.head step_scope (harr _ (hg _ _ hf2))) harr₂⟩
  | ret => exact ⟨_, a₁, w₁, hq, .of_steps (.one step_scope) harr⟩
  | panic ch => exact ⟨_, a₁, w₁, hq, .of_steps (.one step_scope) harr⟩
  | outgrown => exact ⟨_, a₁, w₁, hq, .of_steps (.one step_scope) harr⟩
section
variable {J : Nat → Act → World → Prop} {Q : Exit → Act → World → Prop} {a : Act} {w : World}
theorem jumps_ret : jumps J Q .ret a w = Q .ret a w := rfl
theorem jumps_normal : jumps J Q .normal a w = Q .normal a w := rfl
theorem jumps_goto (l : Nat) : jumps J Q (.goto l) a w = J l a w := rfl
end

/-- The frame of run: the machine's pointer, the hoist's. -/
abbrev fr (gw : Nat) (u : Nat → Value) : Act := { tmps := #[.pointer (some ⟨gw, 0, none⟩), u 1, .pointer (some ⟨gw, 0, none⟩), u 3, u 4, u 5, u 6, u 7, u 8, u 9, u 10, u 11, u 12, u 13, u 14, u 15, u 16, u 17, u 18, u 19, u 20, u 21, u 22, u 23, u 24, u 25, u 26, u 27, u 28, u 29, u 30, u 31, u 32, u 33, u 34, u 35, u 36, u 37, u 38, u 39, u 40, u 41, u 42, u 43, u 44, u 45, u 46, u 47, u 48, u 49, u 50, u 51, u 52, u 53, u 54, u 55, u 56, u 57, u 58, u 59, u 60, u 61, u 62, u 63, u 64, u 65, u 66, u 67, u 68, u 69, u 70, u 71, u 72, u 73, u 74, u 75, u 76, u 77, u 78, u 79, u 80, u 81, u 82, u 83, u 84, u 85, u 86, u 87, u 88, u 89, u 90, u 91, u 92, u 93, u 94, u 95, u 96, u 97, u 98, u 99, u 100, u 101, u 102, u 103, u 104, u 105, u 106], defers := [] }
/-- The State at a label (labels are numbered as gotos name them). -/
def lq : Nat → Int
  | 0 => 1
  | 1 => 2
  | 2 => 3
  | _ => 0
def RnJ (w0 wS : World) (gw gT : Nat) (HF : Ho) (CD : List Bool) (l m : Nat) (a : Act) (w : World) : Prop :=
  l < 4 ∧ ∃ (x : Ho) (L : List SignalT) (D : List Bool), (∃ u, a = fr gw u) ∧ m = L.length ∧ Wn w0 w gw gT x L D ∧ hoB (x.at (lq l)) = true ∧ D ++ cdS (x.at (lq l)) L = CD ∧ stS (x.at (lq l)) L = HF ∧ Kept (fun b => b = gw ∨ b = gT) wS w ∧ Below w0.heap.size w0 w
theorem Wn.step {w0 w w' : World} {gw gT : Nat} {h : Ho} {L : List SignalT} {D : List Bool} (hW : Wn w0 w gw gT h L D) (hb : Below w.heap.size w w') : Wn w0 w' gw gT h L D := by
  obtain ⟨ao, n, c, a2, ct, ho, hr, h1, h2, h3, h4⟩ := hW
  exact ⟨ao, n, c, a2, ct, ho.step hb, hr, h1, h2, h3, h4.step hb⟩
theorem Wn.setQ {w0 w : World} {gw gT : Nat} {h : Ho} {L : List SignalT} {D : List Bool} (hW : Wn w0 w gw gT h L D) (hne : gw ≠ gT) (q : Int) : Wn w0 (w.setCell ⟨gw, 0, none⟩ (.int .i64 q)) gw gT (h.at q) L D := by
  obtain ⟨ao, n, c, a2, ct, ho, hr, h1, h2, h3, h4⟩ := hW
  exact ⟨ao, n, c, a2, ct, ho.set 0 _ (by simp), hr, h1, h2, h3, h4.other (by dsimp only; omega) _⟩
theorem Wn.cells {w0 w : World} {gw gT : Nat} {h : Ho} {L : List SignalT} {D : List Bool} (hW : Wn w0 w gw gT h L D) :
    w.frozen? ⟨gw, 0, none⟩ = false ∧ w.cell? ⟨gw, 0, none⟩ = some (.int .i64 h.q) ∧ w.cell? ⟨gw, 1, none⟩ = some (.int .i64 h.ld) ∧ w.cell? ⟨gw, 2, none⟩ = some (.int .i64 h.he) ∧ w.cell? ⟨gw, 3, none⟩ = some (.int .i64 h.lw) ∧ w.cell? ⟨gw, 4, none⟩ = some (.int .i64 h.hg) ∧ w.cell? ⟨gw, 5, none⟩ = some (.int .i64 h.lm) := by
  obtain ⟨ao, n, c, a2, ct, ho, hr, h1, h2, h3, h4⟩ := hW
  exact ⟨ho.frozen 0, ho.cell (i := 0) rfl, ho.cell (i := 1) rfl, ho.cell (i := 2) rfl, ho.cell (i := 3) rfl, ho.cell (i := 4) rfl, ho.cell (i := 5) rfl⟩
theorem fr_of {gw : Nat} (a : Act) (h : a = fr gw (fun i => a.tmps.getD i undef)) : ∃ u, a = fr gw u := ⟨_, h⟩
theorem at_at (h : Ho) (q q' : Int) : (h.at q).at q' = h.at q' := rfl
theorem at_q (h : Ho) : h.at h.q = h := rfl

/-- What next tells, as run takes it: nothing is left, or a jump. -/
theorem next_run {w0 wS V1 V2 : World} {gw gT : Nat} {x HF : Ho} {M : List SignalT} {D CD : List Bool} {q : Int} {e : Ending} (hok : hoB (x.at q) = true) (hcd : D ++ cdS (x.at q) M = CD) (hst : stS (x.at q) M = HF)
    (hK : Kept (fun b => b = gw ∨ b = gT) wS V1) (hB : Below w0.heap.size w0 V1) (hgw : w0.heap.size ≤ gw) (hgT : w0.heap.size ≤ gT) (hn : NxA w0 V1 gw gT (x.at q) M D e V2) :
    (Kept (fun b => b = gw ∨ b = gT) wS V2 ∧ Below w0.heap.size w0 V2) ∧
    ((e = .returned (.int .i64 0) ∧ Wn w0 V2 gw gT HF [] CD) ∨
    ∃ (k m : Int) (y : Ho) (M2 : List SignalT) (D2 : List Bool), e = .returned (.int .i64 k) ∧ (1 ≤ k ∧ k ≤ 7) ∧ y = behH (x.at q) k m ∧ Wn w0 V2 gw gT y M2 D2 ∧ M2.length < M.length ∧
      hoB (y.at (nxQ q y k)) = true ∧ D2 ++ cdS (y.at (nxQ q y k)) M2 = CD ∧ stS (y.at (nxQ q y k)) M2 = HF) := by
  obtain ⟨hc, hk⟩ := hn
  refine ⟨⟨hK.trans hk, kept_w0 hB hk hgw hgT⟩, ?_⟩
  rcases hc with ⟨hall, rfl, hw⟩ | ⟨P, ⟨k, m⟩, M2, rfl, hP, hm, rfl, hw⟩
  · left
    have hs := cdS_skip hok [] M hall
    rw [List.append_nil] at hs
    rw [hs.1] at hcd
    rw [hs.2] at hst
    refine ⟨rfl, ?_⟩
    rw [← hcd, ← hst]
    simpa [cdS, stS] using hw
  · right
    have hs := cdS_skip hok ((k, m) :: M2) P hP
    have hy : sigH (x.at q) k m = ((behH (x.at q) k m).at (nxQ q (behH (x.at q) k m) k), true) := sig_yes hok hm
    have ho2 := sig_ok k m hok
    dsimp only at hy hm hw
    rw [hy] at ho2
    rw [hs.1] at hcd
    rw [hs.2] at hst
    unfold cdS at hcd
    unfold stS at hst
    dsimp only at hcd hst
    rw [hy] at hcd hst
    have hk := may_nz hm
    refine ⟨k, m, _, M2, _, rfl, hk, rfl, hw, by simp; omega, ho2, ?_, hst⟩
    simpa using hcd

set_option maxRecDepth 100000 in
set_option maxHeartbeats 16000000 in
theorem run_any (w0 : World) (gw gT : Nat) (h : Ho) (L : List SignalT) (D : List Bool) (w : World) (ho : hoB h = true) (hB0 : Below w0.heap.size w0 w) (hgw : w0.heap.size ≤ gw) (hgT : w0.heap.size ≤ gT) (hne : gw ≠ gT) (hW : Wn w0 w gw gT h L D) :
    Calls Try.prog 55 #[.pointer (some ⟨gw, 0, none⟩)] w fun e w' => e = .returned (.tuple #[]) ∧ Wn w0 w' gw gT (stS h L) [] (D ++ cdS h L) ∧ Kept (fun b => b = gw ∨ b = gT) w w' := by
  obtain ⟨CD, eCD⟩ : ∃ z, z = D ++ cdS h L := ⟨_, rfl⟩
  obtain ⟨HF, eHF⟩ : ∃ z, z = stS h L := ⟨_, rfl⟩
  rw [← eCD, ← eHF]
  have HCD := hide eCD.symm
  have HST := hide eHF.symm
  have HO := hide ho
  have HWn := hide hW
  have HB := hide hB0
  clear eCD eHF ho hW hB0
  go_enter Try.func55, Try.ntmps55
  go_wp2
  refine wp_scope_many (RnJ w0 w gw gT HF CD) ?_ ?_
  · skip
    have hb := hoB_bd (unhide HO)
    have hq : h.q = 1 ∨ h.q = 2 ∨ h.q = 3 ∨ h.q = 0 := by omega
    clear hb
    obtain ⟨f0, c0, -⟩ := (unhide HWn).cells
    rcases hq with e | e | e | e
    · rw [e] at c0
      have e1 : h.at 1 = h := by rw [← e]; rfl
      have hok := unhide HO
      have hcd := unhide HCD
      have hst := unhide HST
      rw [← e1] at hok hcd hst
      have HE := hide e
      clear e e1
      have Hok := hide hok
      have Hcd := hide hcd
      have Hst := hide hst
      clear hok hcd hst
      go_wp2_with fail
      go_step3
      exact ⟨L.length, by decide, h, L, D, fr_of _ rfl, rfl, unhide HWn, unhide Hok, unhide Hcd, unhide Hst, Kept.refl _ _, unhide HB⟩
    · rw [e] at c0
      have e1 : h.at 2 = h := by rw [← e]; rfl
      have hok := unhide HO
      have hcd := unhide HCD
      have hst := unhide HST
      rw [← e1] at hok hcd hst
      have HE := hide e
      clear e e1
      have Hok := hide hok
      have Hcd := hide hcd
      have Hst := hide hst
      clear hok hcd hst
      go_wp2_with fail
      go_step3
      exact ⟨L.length, by decide, h, L, D, fr_of _ rfl, rfl, unhide HWn, unhide Hok, unhide Hcd, unhide Hst, Kept.refl _ _, unhide HB⟩
    · rw [e] at c0
      have e1 : h.at 3 = h := by rw [← e]; rfl
      have hok := unhide HO
      have hcd := unhide HCD
      have hst := unhide HST
      rw [← e1] at hok hcd hst
      have HE := hide e
      clear e e1
      have Hok := hide hok
      have Hcd := hide hcd
      have Hst := hide hst
      clear hok hcd hst
      go_wp2_with fail
      go_step3
      exact ⟨L.length, by decide, h, L, D, fr_of _ rfl, rfl, unhide HWn, unhide Hok, unhide Hcd, unhide Hst, Kept.refl _ _, unhide HB⟩
    · rw [e] at c0
      have e1 : h.at 0 = h := by rw [← e]; rfl
      have hok := unhide HO
      have hcd := unhide HCD
      have hst := unhide HST
      rw [← e1] at hok hcd hst
      have HE := hide e
      clear e e1
      have HK := hide (Kept.refl (fun b => b = gw ∨ b = gT) w)
      go_wp2_with fail
      go_step3
      have HWn' := HWn
      have HK' := HK
      have HB' := HB
      have Hok := hide hok
      have Hcd := hide hcd
      have Hst := hide hst
      clear HWn HK HB hok hcd hst HO HCD HST HE
      go_upto_region 6 with (fail)
      obtain ⟨V1, eV⟩ : ∃ z, z = w.setCell ⟨gw, 0, none⟩ (.int .i64 0) := ⟨_, rfl⟩
      have HW1 : Hid (Wn w0 V1 gw gT (h.at 0) L D) := by rw [eV]; exact (unhide HWn').setQ hne 0
      have HK1 : Hid (Kept (fun b => b = gw ∨ b = gT) w V1) := by rw [eV]; exact (unhide HK').setCell (Or.inl rfl) _
      have HB1 : Hid (Below w0.heap.size w0 V1) := by rw [eV]; exact (unhide HB').setCell (by dsimp only; omega) _
      rw [← eV]
      clear eV HWn' HK' HB' f0 c0
      go_wp2_with fail
      refine (next_any w0 gw gT (h.at 0) L D V1 (unhide Hok) (unhide HB1) hgw hgT hne (unhide HW1)).mono ?_
      intro e V2 hn
      obtain ⟨⟨hk2, hb2⟩, hn⟩ := next_run (unhide Hok) (unhide Hcd) (unhide Hst) (unhide HK1) (unhide HB1) hgw hgT hn
      have HK2 := hide hk2
      have HB2 := hide hb2
      clear hk2 hb2 HW1 HK1 HB1 Hok Hcd Hst
      rcases hn with ⟨rfl, hw2⟩ | ⟨k, m, y, M2, D2, rfl, hk, hy, hw2, hlt, ho2, hcd2, hst2⟩
      · have HW2 := hide hw2
        clear hw2
        go_wp2_with fail
        rw [jumps_ret]
        show bodyPost Try.prog Try.f55 _ Exit.ret _ _
        refine bodyPost_ret (v := .tuple #[]) (by simp [results, Try.results55, go_sem]) rfl ⟨rfl, unhide HW2, unhide HK2⟩
      have hc7 : k = 1 ∨ k = 2 ∨ k = 3 ∨ k = 4 ∨ k = 5 ∨ k = 6 ∨ k = 7 := by omega
      obtain ⟨-, -, c1, c2, c3, c4, c5⟩ := hw2.cells
      have HW2 := hide hw2
      have Ho2 := hide ho2
      have Hcd2 := hide hcd2
      have Hst2 := hide hst2
      have Hlt := hide hlt
      clear hw2 ho2 hcd2 hst2 hlt hk hy
      rcases hc7 with rfl | rfl | rfl | rfl | rfl | rfl | rfl
      · skip
        have e2 : nxQ 0 y 1 = 1 := by simp [nxQ]
        have ho2 := unhide Ho2
        have hcd2 := unhide Hcd2
        have hst2 := unhide Hst2
        rw [e2] at ho2 hcd2 hst2
        clear hn
        go_wp2_with fail
        go_step3
        exact ⟨M2.length, by decide, y, M2, D2, fr_of _ rfl, rfl, unhide HW2, ho2, hcd2, hst2, unhide HK2, unhide HB2⟩
      · skip
        have e2 : nxQ 0 y 2 = 2 := by simp [nxQ]
        have ho2 := unhide Ho2
        have hcd2 := unhide Hcd2
        have hst2 := unhide Hst2
        rw [e2] at ho2 hcd2 hst2
        clear hn
        go_wp2_with fail
        go_step3
        exact ⟨M2.length, by decide, y, M2, D2, fr_of _ rfl, rfl, unhide HW2, ho2, hcd2, hst2, unhide HK2, unhide HB2⟩
      · skip
        have e2 : nxQ 0 y 3 = 0 := by simp [nxQ]
        have ho2 := unhide Ho2
        have hcd2 := unhide Hcd2
        have hst2 := unhide Hst2
        rw [e2] at ho2 hcd2 hst2
        clear hn
        go_wp2_with fail
        go_step3
        exact ⟨M2.length, by decide, y, M2, D2, fr_of _ rfl, rfl, unhide HW2, ho2, hcd2, hst2, unhide HK2, unhide HB2⟩
      · skip
        have e2 : nxQ 0 y 4 = 3 := by simp [nxQ]
        have ho2 := unhide Ho2
        have hcd2 := unhide Hcd2
        have hst2 := unhide Hst2
        rw [e2] at ho2 hcd2 hst2
        clear hn
        go_wp2_with fail
        go_step3
        exact ⟨M2.length, by decide, y, M2, D2, fr_of _ rfl, rfl, unhide HW2, ho2, hcd2, hst2, unhide HK2, unhide HB2⟩
      · skip
        have e2 : nxQ 0 y 5 = 0 := by simp [nxQ]
        have ho2 := unhide Ho2
        have hcd2 := unhide Hcd2
        have hst2 := unhide Hst2
        rw [e2] at ho2 hcd2 hst2
        clear hn
        go_wp2_with fail
        go_step3
        exact ⟨M2.length, by decide, y, M2, D2, fr_of _ rfl, rfl, unhide HW2, ho2, hcd2, hst2, unhide HK2, unhide HB2⟩
      · skip
        have e2 : nxQ 0 y 6 = 0 := by simp [nxQ]
        have ho2 := unhide Ho2
        have hcd2 := unhide Hcd2
        have hst2 := unhide Hst2
        rw [e2] at ho2 hcd2 hst2
        clear hn
        go_wp2_with fail
        go_step3
        exact ⟨M2.length, by decide, y, M2, D2, fr_of _ rfl, rfl, unhide HW2, ho2, hcd2, hst2, unhide HK2, unhide HB2⟩
      · skip
        have e2 : nxQ 0 y 7 = 0 := by simp [nxQ]
        have ho2 := unhide Ho2
        have hcd2 := unhide Hcd2
        have hst2 := unhide Hst2
        rw [e2] at ho2 hcd2 hst2
        clear hn
        go_wp2_with fail
        go_step3
        exact ⟨M2.length, by decide, y, M2, D2, fr_of _ rfl, rfl, unhide HW2, ho2, hcd2, hst2, unhide HK2, unhide HB2⟩
  · clear HCD HST HO HWn HB
    rintro l m a wr ⟨hl, x, M, D', ⟨u, rfl⟩, rfl, HWn, hok, hcd, hst, HK, HB0⟩
    have hc : l = 0 ∨ l = 1 ∨ l = 2 ∨ l = 3 := by omega
    rcases hc with rfl | rfl | rfl | rfl
    · refine ⟨_, rfl, ?_⟩
      have hok : hoB (x.at 1) = true := hok
      have hcd : D' ++ cdS (x.at 1) M = CD := hcd
      have hst : stS (x.at 1) M = HF := hst
      obtain ⟨f0, c0, -⟩ := HWn.cells
      have HWn' := hide HWn
      have HK' := hide HK
      have HB' := hide HB0
      have Hok := hide hok
      have Hcd := hide hcd
      have Hst := hide hst
      clear HWn HK HB0 hok hcd hst
      go_upto_region 12 with (fail)
      obtain ⟨V1, eV⟩ : ∃ z, z = wr.setCell ⟨gw, 0, none⟩ (.int .i64 1) := ⟨_, rfl⟩
      have HW1 : Hid (Wn w0 V1 gw gT (x.at 1) M D') := by rw [eV]; exact (unhide HWn').setQ hne 1
      have HK1 : Hid (Kept (fun b => b = gw ∨ b = gT) w V1) := by rw [eV]; exact (unhide HK').setCell (Or.inl rfl) _
      have HB1 : Hid (Below w0.heap.size w0 V1) := by rw [eV]; exact (unhide HB').setCell (by dsimp only; omega) _
      rw [← eV]
      clear eV HWn' HK' HB' f0 c0
      go_wp2_with fail
      refine (next_any w0 gw gT (x.at 1) M D' V1 (unhide Hok) (unhide HB1) hgw hgT hne (unhide HW1)).mono ?_
      intro e V2 hn
      obtain ⟨⟨hk2, hb2⟩, hn⟩ := next_run (unhide Hok) (unhide Hcd) (unhide Hst) (unhide HK1) (unhide HB1) hgw hgT hn
      have HK2 := hide hk2
      have HB2 := hide hb2
      clear hk2 hb2 HW1 HK1 HB1 Hok Hcd Hst hok hcd hst hl
      rcases hn with ⟨rfl, hw2⟩ | ⟨k, m, y, M2, D2, rfl, hk, hy, hw2, hlt, ho2, hcd2, hst2⟩
      · have HW2 := hide hw2
        clear hw2
        go_wp2_with fail
        go_quiet (fail)
        go_wp2_with fail
        go_quiet (fail)
        go_wp2_with fail
        rw [jumps_ret]
        show bodyPost Try.prog Try.f55 _ Exit.ret _ _
        refine bodyPost_ret (v := .tuple #[]) (by simp [results, Try.results55, go_sem]) rfl ⟨rfl, by (first | exact unhide HW2 | exact (unhide HW2).step (below_drewN (Below.refl _ _) _) | exact (unhide HW2).step (below_drewN (below_drewN (Below.refl _ _) _) _)), by (first | exact unhide HK2 | exact (unhide HK2).trans (kept_of_below (below_drewN (Below.refl _ _) _)) | exact (unhide HK2).trans (kept_of_below (below_drewN (below_drewN (Below.refl _ _) _) _)))⟩
      have hc7 : k = 1 ∨ k = 2 ∨ k = 3 ∨ k = 4 ∨ k = 5 ∨ k = 6 ∨ k = 7 := by omega
      obtain ⟨-, -, c1, c2, c3, c4, c5⟩ := hw2.cells
      have HW2 := hide hw2
      have Ho2 := hide ho2
      have Hcd2 := hide hcd2
      have Hst2 := hide hst2
      have Hlt := hide hlt
      clear hw2 ho2 hcd2 hst2 hlt hk hy
      rcases hc7 with rfl | rfl | rfl | rfl | rfl | rfl | rfl
      · skip
        have e2 : nxQ 1 y 1 = 1 := by simp [nxQ]
        have ho2 := unhide Ho2
        have hcd2 := unhide Hcd2
        have hst2 := unhide Hst2
        rw [e2] at ho2 hcd2 hst2
        clear hn
        go_wp2_with fail
        go_quiet (fail)
        go_wp2_with fail
        go_quiet (fail)
        go_wp2_with fail
        go_step3
        exact ⟨M2.length, unhide Hlt, by decide, y, M2, D2, fr_of _ rfl, rfl, by (first | exact unhide HW2 | exact (unhide HW2).step (below_drewN (Below.refl _ _) _) | exact (unhide HW2).step (below_drewN (below_drewN (Below.refl _ _) _) _)), ho2, hcd2, hst2, by (first | exact unhide HK2 | exact (unhide HK2).trans (kept_of_below (below_drewN (Below.refl _ _) _)) | exact (unhide HK2).trans (kept_of_below (below_drewN (below_drewN (Below.refl _ _) _) _))), by (first | exact unhide HB2 | exact below_drewN (unhide HB2) _ | exact below_drewN (below_drewN (unhide HB2) _) _)⟩
      · skip
        have e2 : nxQ 1 y 2 = 1 := by simp [nxQ]
        have ho2 := unhide Ho2
        have hcd2 := unhide Hcd2
        have hst2 := unhide Hst2
        rw [e2] at ho2 hcd2 hst2
        clear hn
        go_wp2_with fail
        go_quiet (fail)
        go_wp2_with fail
        go_quiet (fail)
        go_wp2_with fail
        go_step3
        exact ⟨M2.length, unhide Hlt, by decide, y, M2, D2, fr_of _ rfl, rfl, by (first | exact unhide HW2 | exact (unhide HW2).step (below_drewN (Below.refl _ _) _) | exact (unhide HW2).step (below_drewN (below_drewN (Below.refl _ _) _) _)), ho2, hcd2, hst2, by (first | exact unhide HK2 | exact (unhide HK2).trans (kept_of_below (below_drewN (Below.refl _ _) _)) | exact (unhide HK2).trans (kept_of_below (below_drewN (below_drewN (Below.refl _ _) _) _))), by (first | exact unhide HB2 | exact below_drewN (unhide HB2) _ | exact below_drewN (below_drewN (unhide HB2) _) _)⟩
      · skip
        have e2 : nxQ 1 y 3 = 0 := by simp [nxQ]
        have ho2 := unhide Ho2
        have hcd2 := unhide Hcd2
        have hst2 := unhide Hst2
        rw [e2] at ho2 hcd2 hst2
        clear hn
        go_wp2_with fail
        go_step3
        exact ⟨M2.length, unhide Hlt, by decide, y, M2, D2, fr_of _ rfl, rfl, unhide HW2, ho2, hcd2, hst2, unhide HK2, unhide HB2⟩
      · skip
        have e2 : nxQ 1 y 4 = 3 := by simp [nxQ]
        have ho2 := unhide Ho2
        have hcd2 := unhide Hcd2
        have hst2 := unhide Hst2
        rw [e2] at ho2 hcd2 hst2
        clear hn
        go_wp2_with fail
        go_quiet (fail)
        go_wp2_with fail
        go_quiet (fail)
        go_wp2_with fail
        go_step3
        exact ⟨M2.length, unhide Hlt, by decide, y, M2, D2, fr_of _ rfl, rfl, by (first | exact unhide HW2 | exact (unhide HW2).step (below_drewN (Below.refl _ _) _) | exact (unhide HW2).step (below_drewN (below_drewN (Below.refl _ _) _) _)), ho2, hcd2, hst2, by (first | exact unhide HK2 | exact (unhide HK2).trans (kept_of_below (below_drewN (Below.refl _ _) _)) | exact (unhide HK2).trans (kept_of_below (below_drewN (below_drewN (Below.refl _ _) _) _))), by (first | exact unhide HB2 | exact below_drewN (unhide HB2) _ | exact below_drewN (below_drewN (unhide HB2) _) _)⟩
      · skip
        have e2 : nxQ 1 y 5 = 1 := by simp [nxQ]
        have ho2 := unhide Ho2
        have hcd2 := unhide Hcd2
        have hst2 := unhide Hst2
        rw [e2] at ho2 hcd2 hst2
        clear hn
        go_wp2_with fail
        go_quiet (fail)
        go_wp2_with fail
        go_quiet (fail)
        go_wp2_with fail
        go_step3
        exact ⟨M2.length, unhide Hlt, by decide, y, M2, D2, fr_of _ rfl, rfl, by (first | exact unhide HW2 | exact (unhide HW2).step (below_drewN (Below.refl _ _) _) | exact (unhide HW2).step (below_drewN (below_drewN (Below.refl _ _) _) _)), ho2, hcd2, hst2, by (first | exact unhide HK2 | exact (unhide HK2).trans (kept_of_below (below_drewN (Below.refl _ _) _)) | exact (unhide HK2).trans (kept_of_below (below_drewN (below_drewN (Below.refl _ _) _) _))), by (first | exact unhide HB2 | exact below_drewN (unhide HB2) _ | exact below_drewN (below_drewN (unhide HB2) _) _)⟩
      · skip
        clear hn
        by_cases a1 : y.lm < y.ld
        · skip
          have e2 : nxQ 1 y 6 = 0 := by simp [nxQ, a1]
          have ho2 := unhide Ho2
          have hcd2 := unhide Hcd2
          have hst2 := unhide Hst2
          rw [e2] at ho2 hcd2 hst2
          have d1 : decide (y.lm < y.ld) = true := decide_eq_true a1
          go_wp2_with fail
          go_quiet (fail)
          go_wp2_with fail
          go_step3
          exact ⟨M2.length, unhide Hlt, by decide, y, M2, D2, fr_of _ rfl, rfl, by (first | exact unhide HW2 | exact (unhide HW2).step (below_drewN (Below.refl _ _) _) | exact (unhide HW2).step (below_drewN (below_drewN (Below.refl _ _) _) _)), ho2, hcd2, hst2, by (first | exact unhide HK2 | exact (unhide HK2).trans (kept_of_below (below_drewN (Below.refl _ _) _)) | exact (unhide HK2).trans (kept_of_below (below_drewN (below_drewN (Below.refl _ _) _) _))), by (first | exact unhide HB2 | exact below_drewN (unhide HB2) _ | exact below_drewN (below_drewN (unhide HB2) _) _)⟩
        · skip
          have e2 : nxQ 1 y 6 = 1 := by simp [nxQ, a1]
          have ho2 := unhide Ho2
          have hcd2 := unhide Hcd2
          have hst2 := unhide Hst2
          rw [e2] at ho2 hcd2 hst2
          have d1 : decide (y.lm < y.ld) = false := decide_eq_false a1
          go_wp2_with fail
          go_quiet (fail)
          go_wp2_with fail
          go_quiet (fail)
          go_wp2_with fail
          go_step3
          exact ⟨M2.length, unhide Hlt, by decide, y, M2, D2, fr_of _ rfl, rfl, by (first | exact unhide HW2 | exact (unhide HW2).step (below_drewN (Below.refl _ _) _) | exact (unhide HW2).step (below_drewN (below_drewN (Below.refl _ _) _) _)), ho2, hcd2, hst2, by (first | exact unhide HK2 | exact (unhide HK2).trans (kept_of_below (below_drewN (Below.refl _ _) _)) | exact (unhide HK2).trans (kept_of_below (below_drewN (below_drewN (Below.refl _ _) _) _))), by (first | exact unhide HB2 | exact below_drewN (unhide HB2) _ | exact below_drewN (below_drewN (unhide HB2) _) _)⟩
      · skip
        clear hn
        by_cases a1 : y.he = y.hg
        · skip
          have e2 : nxQ 1 y 7 = 0 := by simp [nxQ, a1]
          have ho2 := unhide Ho2
          have hcd2 := unhide Hcd2
          have hst2 := unhide Hst2
          rw [e2] at ho2 hcd2 hst2
          have d1 : (y.he == y.hg) = true := by simp [a1]
          clear a1
          go_wp2_with fail
          go_quiet (fail)
          go_wp2_with fail
          go_quiet (fail)
          go_wp2_with fail
          go_step3
          exact ⟨M2.length, unhide Hlt, by decide, y, M2, D2, fr_of _ rfl, rfl, by (first | exact unhide HW2 | exact (unhide HW2).step (below_drewN (Below.refl _ _) _) | exact (unhide HW2).step (below_drewN (below_drewN (Below.refl _ _) _) _)), ho2, hcd2, hst2, by (first | exact unhide HK2 | exact (unhide HK2).trans (kept_of_below (below_drewN (Below.refl _ _) _)) | exact (unhide HK2).trans (kept_of_below (below_drewN (below_drewN (Below.refl _ _) _) _))), by (first | exact unhide HB2 | exact below_drewN (unhide HB2) _ | exact below_drewN (below_drewN (unhide HB2) _) _)⟩
        · skip
          have e2 : nxQ 1 y 7 = 1 := by simp [nxQ, a1]
          have ho2 := unhide Ho2
          have hcd2 := unhide Hcd2
          have hst2 := unhide Hst2
          rw [e2] at ho2 hcd2 hst2
          have d1 : (y.he == y.hg) = false := by simp [a1]
          go_wp2_with fail
          go_quiet (fail)
          go_wp2_with fail
          go_quiet (fail)
          go_wp2_with fail
          go_step3
          exact ⟨M2.length, unhide Hlt, by decide, y, M2, D2, fr_of _ rfl, rfl, by (first | exact unhide HW2 | exact (unhide HW2).step (below_drewN (Below.refl _ _) _) | exact (unhide HW2).step (below_drewN (below_drewN (Below.refl _ _) _) _)), ho2, hcd2, hst2, by (first | exact unhide HK2 | exact (unhide HK2).trans (kept_of_below (below_drewN (Below.refl _ _) _)) | exact (unhide HK2).trans (kept_of_below (below_drewN (below_drewN (Below.refl _ _) _) _))), by (first | exact unhide HB2 | exact below_drewN (unhide HB2) _ | exact below_drewN (below_drewN (unhide HB2) _) _)⟩
    · refine ⟨_, rfl, ?_⟩
      have hok : hoB (x.at 2) = true := hok
      have hcd : D' ++ cdS (x.at 2) M = CD := hcd
      have hst : stS (x.at 2) M = HF := hst
      obtain ⟨f0, c0, -⟩ := HWn.cells
      have HWn' := hide HWn
      have HK' := hide HK
      have HB' := hide HB0
      have Hok := hide hok
      have Hcd := hide hcd
      have Hst := hide hst
      clear HWn HK HB0 hok hcd hst
      go_upto_region 19 with (fail)
      obtain ⟨V1, eV⟩ : ∃ z, z = wr.setCell ⟨gw, 0, none⟩ (.int .i64 2) := ⟨_, rfl⟩
      have HW1 : Hid (Wn w0 V1 gw gT (x.at 2) M D') := by rw [eV]; exact (unhide HWn').setQ hne 2
      have HK1 : Hid (Kept (fun b => b = gw ∨ b = gT) w V1) := by rw [eV]; exact (unhide HK').setCell (Or.inl rfl) _
      have HB1 : Hid (Below w0.heap.size w0 V1) := by rw [eV]; exact (unhide HB').setCell (by dsimp only; omega) _
      rw [← eV]
      clear eV HWn' HK' HB' f0 c0
      go_wp2_with fail
      refine (next_any w0 gw gT (x.at 2) M D' V1 (unhide Hok) (unhide HB1) hgw hgT hne (unhide HW1)).mono ?_
      intro e V2 hn
      obtain ⟨⟨hk2, hb2⟩, hn⟩ := next_run (unhide Hok) (unhide Hcd) (unhide Hst) (unhide HK1) (unhide HB1) hgw hgT hn
      have HK2 := hide hk2
      have HB2 := hide hb2
      clear hk2 hb2 HW1 HK1 HB1 Hok Hcd Hst hok hcd hst hl
      rcases hn with ⟨rfl, hw2⟩ | ⟨k, m, y, M2, D2, rfl, hk, hy, hw2, hlt, ho2, hcd2, hst2⟩
      · have HW2 := hide hw2
        clear hw2
        go_wp2_with fail
        go_quiet (fail)
        go_wp2_with fail
        rw [jumps_ret]
        show bodyPost Try.prog Try.f55 _ Exit.ret _ _
        refine bodyPost_ret (v := .tuple #[]) (by simp [results, Try.results55, go_sem]) rfl ⟨rfl, by (first | exact unhide HW2 | exact (unhide HW2).step (below_drewN (Below.refl _ _) _) | exact (unhide HW2).step (below_drewN (below_drewN (Below.refl _ _) _) _)), by (first | exact unhide HK2 | exact (unhide HK2).trans (kept_of_below (below_drewN (Below.refl _ _) _)) | exact (unhide HK2).trans (kept_of_below (below_drewN (below_drewN (Below.refl _ _) _) _)))⟩
      have hc7 : k = 1 ∨ k = 2 ∨ k = 3 ∨ k = 4 ∨ k = 5 ∨ k = 6 ∨ k = 7 := by omega
      obtain ⟨-, -, c1, c2, c3, c4, c5⟩ := hw2.cells
      have HW2 := hide hw2
      have Ho2 := hide ho2
      have Hcd2 := hide hcd2
      have Hst2 := hide hst2
      have Hlt := hide hlt
      clear hw2 ho2 hcd2 hst2 hlt hk hy
      rcases hc7 with rfl | rfl | rfl | rfl | rfl | rfl | rfl
      · skip
        have e2 : nxQ 2 y 1 = 2 := by simp [nxQ]
        have ho2 := unhide Ho2
        have hcd2 := unhide Hcd2
        have hst2 := unhide Hst2
        rw [e2] at ho2 hcd2 hst2
        clear hn
        go_wp2_with fail
        go_quiet (fail)
        go_wp2_with fail
        go_step3
        exact ⟨M2.length, unhide Hlt, by decide, y, M2, D2, fr_of _ rfl, rfl, by (first | exact unhide HW2 | exact (unhide HW2).step (below_drewN (Below.refl _ _) _) | exact (unhide HW2).step (below_drewN (below_drewN (Below.refl _ _) _) _)), ho2, hcd2, hst2, by (first | exact unhide HK2 | exact (unhide HK2).trans (kept_of_below (below_drewN (Below.refl _ _) _)) | exact (unhide HK2).trans (kept_of_below (below_drewN (below_drewN (Below.refl _ _) _) _))), by (first | exact unhide HB2 | exact below_drewN (unhide HB2) _ | exact below_drewN (below_drewN (unhide HB2) _) _)⟩
      · skip
        have e2 : nxQ 2 y 2 = 2 := by simp [nxQ]
        have ho2 := unhide Ho2
        have hcd2 := unhide Hcd2
        have hst2 := unhide Hst2
        rw [e2] at ho2 hcd2 hst2
        clear hn
        go_wp2_with fail
        go_quiet (fail)
        go_wp2_with fail
        go_step3
        exact ⟨M2.length, unhide Hlt, by decide, y, M2, D2, fr_of _ rfl, rfl, by (first | exact unhide HW2 | exact (unhide HW2).step (below_drewN (Below.refl _ _) _) | exact (unhide HW2).step (below_drewN (below_drewN (Below.refl _ _) _) _)), ho2, hcd2, hst2, by (first | exact unhide HK2 | exact (unhide HK2).trans (kept_of_below (below_drewN (Below.refl _ _) _)) | exact (unhide HK2).trans (kept_of_below (below_drewN (below_drewN (Below.refl _ _) _) _))), by (first | exact unhide HB2 | exact below_drewN (unhide HB2) _ | exact below_drewN (below_drewN (unhide HB2) _) _)⟩
      · skip
        have e2 : nxQ 2 y 3 = 0 := by simp [nxQ]
        have ho2 := unhide Ho2
        have hcd2 := unhide Hcd2
        have hst2 := unhide Hst2
        rw [e2] at ho2 hcd2 hst2
        clear hn
        go_wp2_with fail
        go_step3
        exact ⟨M2.length, unhide Hlt, by decide, y, M2, D2, fr_of _ rfl, rfl, unhide HW2, ho2, hcd2, hst2, unhide HK2, unhide HB2⟩
      · skip
        have e2 : nxQ 2 y 4 = 3 := by simp [nxQ]
        have ho2 := unhide Ho2
        have hcd2 := unhide Hcd2
        have hst2 := unhide Hst2
        rw [e2] at ho2 hcd2 hst2
        clear hn
        go_wp2_with fail
        go_quiet (fail)
        go_wp2_with fail
        go_step3
        exact ⟨M2.length, unhide Hlt, by decide, y, M2, D2, fr_of _ rfl, rfl, by (first | exact unhide HW2 | exact (unhide HW2).step (below_drewN (Below.refl _ _) _) | exact (unhide HW2).step (below_drewN (below_drewN (Below.refl _ _) _) _)), ho2, hcd2, hst2, by (first | exact unhide HK2 | exact (unhide HK2).trans (kept_of_below (below_drewN (Below.refl _ _) _)) | exact (unhide HK2).trans (kept_of_below (below_drewN (below_drewN (Below.refl _ _) _) _))), by (first | exact unhide HB2 | exact below_drewN (unhide HB2) _ | exact below_drewN (below_drewN (unhide HB2) _) _)⟩
      · skip
        have e2 : nxQ 2 y 5 = 2 := by simp [nxQ]
        have ho2 := unhide Ho2
        have hcd2 := unhide Hcd2
        have hst2 := unhide Hst2
        rw [e2] at ho2 hcd2 hst2
        clear hn
        go_wp2_with fail
        go_quiet (fail)
        go_wp2_with fail
        go_step3
        exact ⟨M2.length, unhide Hlt, by decide, y, M2, D2, fr_of _ rfl, rfl, by (first | exact unhide HW2 | exact (unhide HW2).step (below_drewN (Below.refl _ _) _) | exact (unhide HW2).step (below_drewN (below_drewN (Below.refl _ _) _) _)), ho2, hcd2, hst2, by (first | exact unhide HK2 | exact (unhide HK2).trans (kept_of_below (below_drewN (Below.refl _ _) _)) | exact (unhide HK2).trans (kept_of_below (below_drewN (below_drewN (Below.refl _ _) _) _))), by (first | exact unhide HB2 | exact below_drewN (unhide HB2) _ | exact below_drewN (below_drewN (unhide HB2) _) _)⟩
      · skip
        have e2 : nxQ 2 y 6 = 2 := by simp [nxQ]
        have ho2 := unhide Ho2
        have hcd2 := unhide Hcd2
        have hst2 := unhide Hst2
        rw [e2] at ho2 hcd2 hst2
        clear hn
        go_wp2_with fail
        go_quiet (fail)
        go_wp2_with fail
        go_step3
        exact ⟨M2.length, unhide Hlt, by decide, y, M2, D2, fr_of _ rfl, rfl, by (first | exact unhide HW2 | exact (unhide HW2).step (below_drewN (Below.refl _ _) _) | exact (unhide HW2).step (below_drewN (below_drewN (Below.refl _ _) _) _)), ho2, hcd2, hst2, by (first | exact unhide HK2 | exact (unhide HK2).trans (kept_of_below (below_drewN (Below.refl _ _) _)) | exact (unhide HK2).trans (kept_of_below (below_drewN (below_drewN (Below.refl _ _) _) _))), by (first | exact unhide HB2 | exact below_drewN (unhide HB2) _ | exact below_drewN (below_drewN (unhide HB2) _) _)⟩
      · skip
        clear hn
        by_cases a1 : y.he = y.lw
        · skip
          have e2 : nxQ 2 y 7 = 0 := by simp [nxQ, a1]
          have ho2 := unhide Ho2
          have hcd2 := unhide Hcd2
          have hst2 := unhide Hst2
          rw [e2] at ho2 hcd2 hst2
          have d1 : (y.he == y.lw) = true := by simp [a1]
          clear a1
          go_wp2_with fail
          go_quiet (fail)
          go_wp2_with fail
          go_step3
          exact ⟨M2.length, unhide Hlt, by decide, y, M2, D2, fr_of _ rfl, rfl, by (first | exact unhide HW2 | exact (unhide HW2).step (below_drewN (Below.refl _ _) _) | exact (unhide HW2).step (below_drewN (below_drewN (Below.refl _ _) _) _)), ho2, hcd2, hst2, by (first | exact unhide HK2 | exact (unhide HK2).trans (kept_of_below (below_drewN (Below.refl _ _) _)) | exact (unhide HK2).trans (kept_of_below (below_drewN (below_drewN (Below.refl _ _) _) _))), by (first | exact unhide HB2 | exact below_drewN (unhide HB2) _ | exact below_drewN (below_drewN (unhide HB2) _) _)⟩
        · skip
          have e2 : nxQ 2 y 7 = 2 := by simp [nxQ, a1]
          have ho2 := unhide Ho2
          have hcd2 := unhide Hcd2
          have hst2 := unhide Hst2
          rw [e2] at ho2 hcd2 hst2
          have d1 : (y.he == y.lw) = false := by simp [a1]
          go_wp2_with fail
          go_quiet (fail)
          go_wp2_with fail
          go_step3
          exact ⟨M2.length, unhide Hlt, by decide, y, M2, D2, fr_of _ rfl, rfl, by (first | exact unhide HW2 | exact (unhide HW2).step (below_drewN (Below.refl _ _) _) | exact (unhide HW2).step (below_drewN (below_drewN (Below.refl _ _) _) _)), ho2, hcd2, hst2, by (first | exact unhide HK2 | exact (unhide HK2).trans (kept_of_below (below_drewN (Below.refl _ _) _)) | exact (unhide HK2).trans (kept_of_below (below_drewN (below_drewN (Below.refl _ _) _) _))), by (first | exact unhide HB2 | exact below_drewN (unhide HB2) _ | exact below_drewN (below_drewN (unhide HB2) _) _)⟩
    · refine ⟨_, rfl, ?_⟩
      have hok : hoB (x.at 3) = true := hok
      have hcd : D' ++ cdS (x.at 3) M = CD := hcd
      have hst : stS (x.at 3) M = HF := hst
      obtain ⟨f0, c0, -⟩ := HWn.cells
      have HWn' := hide HWn
      have HK' := hide HK
      have HB' := hide HB0
      have Hok := hide hok
      have Hcd := hide hcd
      have Hst := hide hst
      clear HWn HK HB0 hok hcd hst
      go_upto_region 25 with (fail)
      obtain ⟨V1, eV⟩ : ∃ z, z = wr.setCell ⟨gw, 0, none⟩ (.int .i64 3) := ⟨_, rfl⟩
      have HW1 : Hid (Wn w0 V1 gw gT (x.at 3) M D') := by rw [eV]; exact (unhide HWn').setQ hne 3
      have HK1 : Hid (Kept (fun b => b = gw ∨ b = gT) w V1) := by rw [eV]; exact (unhide HK').setCell (Or.inl rfl) _
      have HB1 : Hid (Below w0.heap.size w0 V1) := by rw [eV]; exact (unhide HB').setCell (by dsimp only; omega) _
      rw [← eV]
      clear eV HWn' HK' HB' f0 c0
      go_wp2_with fail
      refine (next_any w0 gw gT (x.at 3) M D' V1 (unhide Hok) (unhide HB1) hgw hgT hne (unhide HW1)).mono ?_
      intro e V2 hn
      obtain ⟨⟨hk2, hb2⟩, hn⟩ := next_run (unhide Hok) (unhide Hcd) (unhide Hst) (unhide HK1) (unhide HB1) hgw hgT hn
      have HK2 := hide hk2
      have HB2 := hide hb2
      clear hk2 hb2 HW1 HK1 HB1 Hok Hcd Hst hok hcd hst hl
      rcases hn with ⟨rfl, hw2⟩ | ⟨k, m, y, M2, D2, rfl, hk, hy, hw2, hlt, ho2, hcd2, hst2⟩
      · have HW2 := hide hw2
        clear hw2
        go_wp2_with fail
        rw [jumps_ret]
        show bodyPost Try.prog Try.f55 _ Exit.ret _ _
        refine bodyPost_ret (v := .tuple #[]) (by simp [results, Try.results55, go_sem]) rfl ⟨rfl, by (first | exact unhide HW2 | exact (unhide HW2).step (below_drewN (Below.refl _ _) _) | exact (unhide HW2).step (below_drewN (below_drewN (Below.refl _ _) _) _)), by (first | exact unhide HK2 | exact (unhide HK2).trans (kept_of_below (below_drewN (Below.refl _ _) _)) | exact (unhide HK2).trans (kept_of_below (below_drewN (below_drewN (Below.refl _ _) _) _)))⟩
      have hc7 : k = 1 ∨ k = 2 ∨ k = 3 ∨ k = 4 ∨ k = 5 ∨ k = 6 ∨ k = 7 := by omega
      obtain ⟨-, -, c1, c2, c3, c4, c5⟩ := hw2.cells
      have HW2 := hide hw2
      have Ho2 := hide ho2
      have Hcd2 := hide hcd2
      have Hst2 := hide hst2
      have Hlt := hide hlt
      clear hw2 ho2 hcd2 hst2 hlt hk hy
      rcases hc7 with rfl | rfl | rfl | rfl | rfl | rfl | rfl
      · skip
        have e2 : nxQ 3 y 1 = 3 := by simp [nxQ]
        have ho2 := unhide Ho2
        have hcd2 := unhide Hcd2
        have hst2 := unhide Hst2
        rw [e2] at ho2 hcd2 hst2
        clear hn
        go_wp2_with fail
        go_step3
        exact ⟨M2.length, unhide Hlt, by decide, y, M2, D2, fr_of _ rfl, rfl, unhide HW2, ho2, hcd2, hst2, unhide HK2, unhide HB2⟩
      · skip
        have e2 : nxQ 3 y 2 = 3 := by simp [nxQ]
        have ho2 := unhide Ho2
        have hcd2 := unhide Hcd2
        have hst2 := unhide Hst2
        rw [e2] at ho2 hcd2 hst2
        clear hn
        go_wp2_with fail
        go_step3
        exact ⟨M2.length, unhide Hlt, by decide, y, M2, D2, fr_of _ rfl, rfl, unhide HW2, ho2, hcd2, hst2, unhide HK2, unhide HB2⟩
      · skip
        have e2 : nxQ 3 y 3 = 0 := by simp [nxQ]
        have ho2 := unhide Ho2
        have hcd2 := unhide Hcd2
        have hst2 := unhide Hst2
        rw [e2] at ho2 hcd2 hst2
        clear hn
        go_wp2_with fail
        go_step3
        exact ⟨M2.length, unhide Hlt, by decide, y, M2, D2, fr_of _ rfl, rfl, unhide HW2, ho2, hcd2, hst2, unhide HK2, unhide HB2⟩
      · skip
        have e2 : nxQ 3 y 4 = 3 := by simp [nxQ]
        have ho2 := unhide Ho2
        have hcd2 := unhide Hcd2
        have hst2 := unhide Hst2
        rw [e2] at ho2 hcd2 hst2
        clear hn
        go_wp2_with fail
        go_step3
        exact ⟨M2.length, unhide Hlt, by decide, y, M2, D2, fr_of _ rfl, rfl, unhide HW2, ho2, hcd2, hst2, unhide HK2, unhide HB2⟩
      · skip
        have e2 : nxQ 3 y 5 = 3 := by simp [nxQ]
        have ho2 := unhide Ho2
        have hcd2 := unhide Hcd2
        have hst2 := unhide Hst2
        rw [e2] at ho2 hcd2 hst2
        clear hn
        go_wp2_with fail
        go_step3
        exact ⟨M2.length, unhide Hlt, by decide, y, M2, D2, fr_of _ rfl, rfl, unhide HW2, ho2, hcd2, hst2, unhide HK2, unhide HB2⟩
      · skip
        have e2 : nxQ 3 y 6 = 3 := by simp [nxQ]
        have ho2 := unhide Ho2
        have hcd2 := unhide Hcd2
        have hst2 := unhide Hst2
        rw [e2] at ho2 hcd2 hst2
        clear hn
        go_wp2_with fail
        go_step3
        exact ⟨M2.length, unhide Hlt, by decide, y, M2, D2, fr_of _ rfl, rfl, unhide HW2, ho2, hcd2, hst2, unhide HK2, unhide HB2⟩
      · skip
        have e2 : nxQ 3 y 7 = 3 := by simp [nxQ]
        have ho2 := unhide Ho2
        have hcd2 := unhide Hcd2
        have hst2 := unhide Hst2
        rw [e2] at ho2 hcd2 hst2
        clear hn
        go_wp2_with fail
        go_step3
        exact ⟨M2.length, unhide Hlt, by decide, y, M2, D2, fr_of _ rfl, rfl, unhide HW2, ho2, hcd2, hst2, unhide HK2, unhide HB2⟩
    · refine ⟨_, rfl, ?_⟩
      have hok : hoB (x.at 0) = true := hok
      have hcd : D' ++ cdS (x.at 0) M = CD := hcd
      have hst : stS (x.at 0) M = HF := hst
      obtain ⟨f0, c0, -⟩ := HWn.cells
      have HWn' := hide HWn
      have HK' := hide HK
      have HB' := hide HB0
      have Hok := hide hok
      have Hcd := hide hcd
      have Hst := hide hst
      clear HWn HK HB0 hok hcd hst
      go_upto_region 6 with (fail)
      obtain ⟨V1, eV⟩ : ∃ z, z = wr.setCell ⟨gw, 0, none⟩ (.int .i64 0) := ⟨_, rfl⟩
      have HW1 : Hid (Wn w0 V1 gw gT (x.at 0) M D') := by rw [eV]; exact (unhide HWn').setQ hne 0
      have HK1 : Hid (Kept (fun b => b = gw ∨ b = gT) w V1) := by rw [eV]; exact (unhide HK').setCell (Or.inl rfl) _
      have HB1 : Hid (Below w0.heap.size w0 V1) := by rw [eV]; exact (unhide HB').setCell (by dsimp only; omega) _
      rw [← eV]
      clear eV HWn' HK' HB' f0 c0
      go_wp2_with fail
      refine (next_any w0 gw gT (x.at 0) M D' V1 (unhide Hok) (unhide HB1) hgw hgT hne (unhide HW1)).mono ?_
      intro e V2 hn
      obtain ⟨⟨hk2, hb2⟩, hn⟩ := next_run (unhide Hok) (unhide Hcd) (unhide Hst) (unhide HK1) (unhide HB1) hgw hgT hn
      have HK2 := hide hk2
      have HB2 := hide hb2
      clear hk2 hb2 HW1 HK1 HB1 Hok Hcd Hst hok hcd hst hl
      rcases hn with ⟨rfl, hw2⟩ | ⟨k, m, y, M2, D2, rfl, hk, hy, hw2, hlt, ho2, hcd2, hst2⟩
      · have HW2 := hide hw2
        clear hw2
        go_wp2_with fail
        rw [jumps_ret]
        show bodyPost Try.prog Try.f55 _ Exit.ret _ _
        refine bodyPost_ret (v := .tuple #[]) (by simp [results, Try.results55, go_sem]) rfl ⟨rfl, unhide HW2, unhide HK2⟩
      have hc7 : k = 1 ∨ k = 2 ∨ k = 3 ∨ k = 4 ∨ k = 5 ∨ k = 6 ∨ k = 7 := by omega
      obtain ⟨-, -, c1, c2, c3, c4, c5⟩ := hw2.cells
      have HW2 := hide hw2
      have Ho2 := hide ho2
      have Hcd2 := hide hcd2
      have Hst2 := hide hst2
      have Hlt := hide hlt
      clear hw2 ho2 hcd2 hst2 hlt hk hy
      rcases hc7 with rfl | rfl | rfl | rfl | rfl | rfl | rfl
      · skip
        have e2 : nxQ 0 y 1 = 1 := by simp [nxQ]
        have ho2 := unhide Ho2
        have hcd2 := unhide Hcd2
        have hst2 := unhide Hst2
        rw [e2] at ho2 hcd2 hst2
        clear hn
        go_wp2_with fail
        go_step3
        exact ⟨M2.length, unhide Hlt, by decide, y, M2, D2, fr_of _ rfl, rfl, unhide HW2, ho2, hcd2, hst2, unhide HK2, unhide HB2⟩
      · skip
        have e2 : nxQ 0 y 2 = 2 := by simp [nxQ]
        have ho2 := unhide Ho2
        have hcd2 := unhide Hcd2
        have hst2 := unhide Hst2
        rw [e2] at ho2 hcd2 hst2
        clear hn
        go_wp2_with fail
        go_step3
        exact ⟨M2.length, unhide Hlt, by decide, y, M2, D2, fr_of _ rfl, rfl, unhide HW2, ho2, hcd2, hst2, unhide HK2, unhide HB2⟩
      · skip
        have e2 : nxQ 0 y 3 = 0 := by simp [nxQ]
        have ho2 := unhide Ho2
        have hcd2 := unhide Hcd2
        have hst2 := unhide Hst2
        rw [e2] at ho2 hcd2 hst2
        clear hn
        go_wp2_with fail
        go_step3
        exact ⟨M2.length, unhide Hlt, by decide, y, M2, D2, fr_of _ rfl, rfl, unhide HW2, ho2, hcd2, hst2, unhide HK2, unhide HB2⟩
      · skip
        have e2 : nxQ 0 y 4 = 3 := by simp [nxQ]
        have ho2 := unhide Ho2
        have hcd2 := unhide Hcd2
        have hst2 := unhide Hst2
        rw [e2] at ho2 hcd2 hst2
        clear hn
        go_wp2_with fail
        go_step3
        exact ⟨M2.length, unhide Hlt, by decide, y, M2, D2, fr_of _ rfl, rfl, unhide HW2, ho2, hcd2, hst2, unhide HK2, unhide HB2⟩
      · skip
        have e2 : nxQ 0 y 5 = 0 := by simp [nxQ]
        have ho2 := unhide Ho2
        have hcd2 := unhide Hcd2
        have hst2 := unhide Hst2
        rw [e2] at ho2 hcd2 hst2
        clear hn
        go_wp2_with fail
        go_step3
        exact ⟨M2.length, unhide Hlt, by decide, y, M2, D2, fr_of _ rfl, rfl, unhide HW2, ho2, hcd2, hst2, unhide HK2, unhide HB2⟩
      · skip
        have e2 : nxQ 0 y 6 = 0 := by simp [nxQ]
        have ho2 := unhide Ho2
        have hcd2 := unhide Hcd2
        have hst2 := unhide Hst2
        rw [e2] at ho2 hcd2 hst2
        clear hn
        go_wp2_with fail
        go_step3
        exact ⟨M2.length, unhide Hlt, by decide, y, M2, D2, fr_of _ rfl, rfl, unhide HW2, ho2, hcd2, hst2, unhide HK2, unhide HB2⟩
      · skip
        have e2 : nxQ 0 y 7 = 0 := by simp [nxQ]
        have ho2 := unhide Ho2
        have hcd2 := unhide Hcd2
        have hst2 := unhide Hst2
        rw [e2] at ho2 hcd2 hst2
        clear hn
        go_wp2_with fail
        go_step3
        exact ⟨M2.length, unhide Hlt, by decide, y, M2, D2, fr_of _ rfl, rfl, unhide HW2, ho2, hcd2, hst2, unhide HK2, unhide HB2⟩
end Go.Proofs.Ytgmhijbepkobkaa
