/- Both LeastShuffles. Laid together by wip/lay18.py. -/
import Derived.Test.YtdiifkeebgdfkaaYbG
import Derived.Test.YtdiifkeebgdfkaaYaU2
import Derived.Test.YtdiifkeebgdfkaaYbS
import Derived.Test.YtdiifkeebgdfkaaYbH
import Derived.Test.YtdiifkeebgdfkaaYbE
namespace Go.Proofs.Ytdiifkeebgdfkaa
open Go.RowKit

theorem below_keptJ {T : Nat → Prop} {a w w' : World} {B : Nat} (h : Below B a w) (hk : Kept T w w') (hB : B ≤ w.heap.size) (hT : ∀ k, T k → B ≤ k) : Below B a w' := h.trans (hk.below hB hT)

theorem run_tailJ (g o n cap : Nat) (hc : n + 1 ≤ cap) (W : World) :
    (Instr.sliceAt 30 (.slice (some ⟨g, o, none⟩) (n + 1) cap) (some (.int .i64 1)) none none).run Try.prog W = .ok (.slice (some ⟨g, if cap = 1 then o else o + 1, none⟩) n (cap - 1)) W := by
  by_cases e : cap = 1
  · subst e
    have : n = 0 := by omega
    subst this
    simp [go_sem]
  · simp [go_sem, e, Addr.add]
    intro hh
    exfalso
    omega

theorem ints_tail {w : World} {g o n cap : Nat} {L : List Int} (h : IntsIn w (.slice (some ⟨g, o, none⟩) (n + 1) cap) L) : IntsIn w (.slice (some ⟨g, if cap = 1 then o else o + 1, none⟩) n (cap - 1)) (L.drop 1) := by
  obtain ⟨ao, c, e, h1, h2, h3⟩ := h
  simp only [Value.slice.injEq] at e
  obtain ⟨rfl, e2, rfl⟩ := e
  have hl : (L.drop 1).length = n := by rw [List.length_drop]; omega
  refine ⟨_, _, by rw [hl], by rw [hl]; omega, by unfold maxLen at h2 ⊢; omega, fun i hi => ?_⟩
  rw [hl] at hi
  obtain ⟨b, o', e, hx⟩ := h3 (i + 1) (by omega)
  simp only [Option.some.injEq, Addr.mk.injEq, and_true] at e
  obtain ⟨rfl, rfl⟩ := e
  have hc : cap ≠ 1 := by omega
  rw [if_neg hc]
  refine ⟨g, o + 1, rfl, ?_⟩
  rw [show o + 1 + i = o + (i + 1) by omega, hx]
  congr 2
  simp [List.getD]

theorem free_hit {O : List Int} {n : Nat} {R : List (List Int)} {k s : Nat} (h : topR R (O.getD k 0) = some s) : freeR O (n + 1) R k = freeR O n (R.set s (R.getD s []).dropLast) (k + 1) := by simp only [freeR, h]
theorem free_mis {O : List Int} {n : Nat} {R : List (List Int)} {k : Nat} (h : topR R (O.getD k 0) = none) : freeR O n R k = (R, k) := by
  cases n with
  | zero => rfl
  | succ n => simp only [freeR, h]
theorem dropLast_okJ {H : Int} {R : List (List Int)} {s : Nat} (h : YOk H R) (hs : s < R.length) : YOk H (R.set s (R.getD s []).dropLast) := dropLast_take ▸ cut_ok h hs

/-- What is held while boxes are let out. -/
structure FrI (U : Nat → Prop) (w wr : World) (H : Int) (g g0 cap n : Nat) (O : List Int) (F : List (List Int) × Nat) (k : Nat) (R : List (List Int)) (A C : Nat → Nat) (oa : Option Addr) (m oc : Nat) : Prop where
  sy : SY U wr g A C R
  len : R.length = n
  ok : YOk H R
  st : StO O R k
  fr : F = freeR O (O.length - k) R k
  ord : ∀ V, Kept U w V → IntsIn V (.slice oa m oc) (O.drop k)
  ml : m = O.length - k
  box : OwnV wr g0 [.int .i64 H, .slice (some ⟨g, 0, none⟩) n cap]
  kept : Kept U w wr
theorem FrI.below {U : Nat → Prop} {w wr wz : World} {H : Int} {g g0 cap n : Nat} {O : List Int} {F : List (List Int) × Nat} {k : Nat} {R : List (List Int)} {A C : Nat → Nat} {oa : Option Addr} {m oc : Nat} (h : FrI U w wr H g g0 cap n O F k R A C oa m oc) (hb : Below wr.heap.size wr wz) : FrI U w wz H g g0 cap n O F k R A C oa m oc :=
  ⟨h.sy.below hb, h.len, h.ok, h.st, h.fr, h.ord, h.ml, h.box.step hb, h.kept.trans (kept_of_below hb)⟩

/-- What l18Free answers. -/
def FrA (U : Nat → Prop) (w : World) (g : Nat) (O : List Int) (F : List (List Int) × Nat) (e : Ending) (w' : World) : Prop :=
  ∃ oa' m' oc' A' C', e = .returned (.slice oa' m' oc') ∧ m' = O.length - F.2 ∧ SY U w' g A' C' F.1 ∧ (∀ V, Kept U w V → IntsIn V (.slice oa' m' oc') (O.drop F.2)) ∧ Kept U w w'
theorem frA_of {U : Nat → Prop} {w wr : World} {H : Int} {g g0 cap n : Nat} {O : List Int} {F : List (List Int) × Nat} {k : Nat} {R : List (List Int)} {A C : Nat → Nat} {oa : Option Addr} {m oc : Nat} (h : FrI U w wr H g g0 cap n O F k R A C oa m oc) (e : F = (R, k)) : FrA U w g O F (.returned (.slice oa m oc)) wr := by
  subst e
  exact ⟨oa, m, oc, A, C, rfl, h.ml, h.sy, h.ord, h.kept⟩

set_option maxRecDepth 10000 in
set_option maxHeartbeats 16000000 in
theorem l18Free_any (U : Nat → Prop) (H : Int) (g cap : Nat) (A C : Nat → Nat) (R : List (List Int)) (O : List Int) (k : Nat) (oa : Option Addr) (m oc : Nat) (w : World) (h : SY U w g A C R) (hy : YOk H R) (hst : StO O R k) (_hc1 : R.length ≤ cap) (_hc2 : cap ≤ maxLen)
    (hO : ∀ V, Kept U w V → IntsIn V (.slice oa m oc) (O.drop k)) (hO7 : O.length ≤ 7) :
    Calls Try.prog 100 #[yardV H (.slice (some ⟨g, 0, none⟩) R.length cap), .slice oa m oc] w fun e w' => FrA U w g O (freeR O (O.length - k) R k) e w' := by
  obtain ⟨F, eF⟩ : ∃ F, F = freeR O (O.length - k) R k := ⟨_, rfl⟩
  rw [← eF]
  have hml : m = O.length - k := by have h1 := (hO w (Kept.refl _ _)).len.1; rw [List.length_drop] at h1; omega
  have hn1 := hy.n1
  have hn2 := hy.n2
  have hkl := hst.kl
  have hgl := h.top.lt
  unfold maxLen at _hc2
  obtain ⟨n, en⟩ : ∃ n, n = R.length := ⟨_, rfl⟩
  have HI0 := hide fun W (hb : Below w.heap.size w W) g0 (hB : OwnV W g0 [.int .i64 H, .slice (some ⟨g, 0, none⟩) n cap]) => (⟨h.below hb, en.symm, hy, hst, eF, hO, hml, hB, kept_of_below hb⟩ : FrI U w W H g g0 cap n O F k R A C oa m oc)
  rw [← en] at _hc1 hn1 hn2 ⊢
  unfold yardV
  clear h hy hst hO eF en
  go_enter Try.func100, Try.ntmps100
  go_upto_region 1 with (fail)
  obtain ⟨g0, eg0⟩ : ∃ z, z = w.heap.size := ⟨_, rfl⟩
  have hg0 : g < g0 := by rw [eg0]; exact hgl
  obtain ⟨W, eW⟩ : ∃ z, z = w.alloc (.cells #[.int .i64 H, .slice (some ⟨g, 0, none⟩) n cap] 26) := ⟨_, rfl⟩
  have HI : Hid (FrI U w W H g g0 cap n O F k R A C oa m oc) := unhide HI0 W (by rw [eW]; exact Below.alloc1 _ _) g0 (by rw [eW, eg0]; exact ownV_alloc _ _ _)
  rw [← eW, ← eg0]
  clear eW eg0 HI0 hgl
  go_wp2
  go_loopg [1, 5] (2 * (O.length - k) + 1) (fun gh ov av wr => ∃ (k' : Nat) (R' : List (List Int)) (A' C' : Nat → Nat) (oa' : Option Addr) (m' oc' : Nat) (ag : Bool), gh = 2 * (O.length - k') + (if ag = true then 1 else 0) ∧ ov = .slice oa' m' oc' ∧ av = .bool ag ∧ Hid (FrI U w wr H g g0 cap n O F k' R' A' C' oa' m' oc') ∧ Hid (ag = false → F = (R', k')))
  case atStart => exact ⟨k, R, A, C, oa, m, oc, true, by simp, rfl, rfl, HI, fun e => by cases e⟩
  case round =>
    clear HI
    obtain ⟨k', R', A', C', oa', m', oc', ag, rfl, rfl, rfl, HI, HE⟩ := hrel
    cases ag with
    | false =>
      have HF := hide (unhide HE rfl)
      go_wp2
      go_ret
      exact frA_of (unhide HI) (unhide HF)
    | true =>
      have hml' := (unhide HI).ml
      have hkl' := (unhide HI).st.kl
      by_cases hm0 : m' = 0
      · have HF : Hid (F = (R', k')) := by
          have h1 := (unhide HI).fr
          rw [show O.length - k' = 0 by omega] at h1
          exact h1
        have dm : decide ((0 : Int) < (m' : Int)) = false := by simp; omega
        have dn : ¬ ((0 : Int) < (m' : Int)) := by omega
        have HM0 := hide hm0
        have HML := hide hml'
        clear hm0 hml'
        go_wp2
        go_ret
        exact frA_of (unhide HI) (unhide HF)
      · have hmp : 0 < m' := by omega
        have dm : decide ((0 : Int) < (m' : Int)) = true := by simp; omega
        have dn : ((0 : Int) < (m' : Int)) := by omega
        have hkO : k' < O.length := by omega
        obtain ⟨m2, em2⟩ : ∃ z, m' = z + 1 := ⟨m' - 1, by omega⟩
        have HM2 : Hid (m2 = O.length - (k' + 1)) := by show _ = _; omega
        have hm27 : m2 ≤ 7 := by omega
        have hlen1 := ((unhide HI).ord wr (unhide HI).kept).len
        obtain ⟨ob, of, eoa, hx0⟩ := intAt ((unhide HI).ord wr (unhide HI).kept) (j := 0) hmp
        subst eoa
        have hxe : (O.drop k').getD 0 0 = O.getD k' 0 := by simp [List.getD]
        have HFR := hide (unhide HI).fr
        obtain ⟨x, ex⟩ : ∃ x, x = O.getD k' 0 := ⟨_, rfl⟩
        have EX := hide ex
        have HC1 : Hid (m2 + 1 ≤ oc' ∧ oc' ≤ 9223372036854775807) := by have := hlen1.2.1; have h2 := hlen1.2.2; unfold maxLen at h2; exact ⟨by omega, by omega⟩
        have HML := hide hml'
        have HMP := hide hm0
        clear hxe ex hlen1 hx0 hml' hm0
        have EM2 := hide em2
        clear em2
        go_wp2
        clear dm
        go_loopg [1, 5, 6] n (fun gh ov av iv wr => ∃ (q k2 : Nat) (R2 : List (List Int)) (A2 C2 : Nat → Nat) (oa2 : Option Addr) (m3 oc2 : Nat) (ag : Bool), gh = n - q ∧ q ≤ n ∧ ov = .slice oa2 m3 oc2 ∧ av = .bool ag ∧ iv = .int .i64 (q : Int) ∧ Hid (FrI U w wr H g g0 cap n O F k2 R2 A2 C2 oa2 m3 oc2) ∧ Hid (ag = true → k2 = k' + 1) ∧ Hid (ag = false → k2 = k' ∧ R2 = R' ∧ oa2 = some ⟨ob, of, none⟩ ∧ m3 = m' ∧ oc2 = oc' ∧ ∀ s, s < q → ¬ (0 < (R'.getD s []).length ∧ (R'.getD s []).getLastD 0 = x)))
        case atStart => exact ⟨0, k', R', A', C', _, _, _, false, rfl, Nat.zero_le _, rfl, rfl, rfl, HI, fun e => (by cases e), fun _ => ⟨rfl, rfl, rfl, rfl, rfl, fun s hs => absurd hs (Nat.not_lt_zero s)⟩⟩
        case round =>
          clear HI
          obtain ⟨q, k2, R2, A2, C2, oa2, m3, oc2, ag, rfl, hq, rfl, rfl, rfl, HI, HT, HN⟩ := hrel
          have b1 := (unhide HI).box.cell (i := 1) rfl
          cases ag with
          | true =>
            have HK2 := hide (unhide HT rfl)
            have HRF : Hid (true = false → F = (R2, k2)) := fun e => (by cases e)
            by_cases hqn : q < n
            · have dq : decide ((q : Int) < (n : Int)) = true := by simp; omega
              have dqi : (q : Int) < (n : Int) := by omega
              go_wp2
              go_roundg (2 * (O.length - k2) + 1)
              case measure => have := unhide HK2; simp; omega
              case rel => exact ⟨k2, R2, A2, C2, oa2, m3, oc2, true, by simp, rfl, rfl, HI, fun e => (by cases e)⟩
            · have dq : decide ((q : Int) < (n : Int)) = false := by simp; omega
              have dqi : ¬ ((q : Int) < (n : Int)) := by omega
              go_wp2
              go_roundg (2 * (O.length - k2) + 1)
              case measure => have := unhide HK2; simp; omega
              case rel => exact ⟨k2, R2, A2, C2, oa2, m3, oc2, true, by simp, rfl, rfl, HI, fun e => (by cases e)⟩
          | false =>
            obtain ⟨rfl, rfl, rfl, rfl, rfl, hns⟩ := unhide HN rfl
            have HNS := hide hns
            clear HN HT hns
            by_cases hqn : q < n
            · have dq : decide ((q : Int) < (n : Int)) = true := by simp; omega
              have dqi : (q : Int) < (n : Int) := by omega
              have hqR : q < R2.length := by have := (unhide HI).len; omega
              have hrow := ((unhide HI).sy.at hqR).1
              have hm6 := (unhide HI).ok.low q hqR
              have hH6 := (unhide HI).ok.h2
              have hcq := ((unhide HI).sy.caps hqR).2.1
              have HNX : Hid (¬ (0 < (R2.getD q []).length ∧ (R2.getD q []).getLastD 0 = x) → ∀ s, s < q + 1 → ¬ (0 < (R2.getD s []).length ∧ (R2.getD s []).getLastD 0 = x)) := fun hm s hs => by
                by_cases e : s = q
                · subst e; exact hm
                · exact unhide HNS s (by omega)
              have HHT : Hid ((0 < (R2.getD q []).length ∧ (R2.getD q []).getLastD 0 = x) → topR R2 (O.getD k2 0) = some q) := fun hm => topR_some hqR (fun j hj => by rw [← unhide EX]; exact unhide HNS j hj) (by rw [← unhide EX]; exact hm)
              obtain ⟨mr, emr⟩ : ∃ z, (R2.getD q []).length = z := ⟨_, rfl⟩
              rw [emr] at hrow hm6 hcq HNX HHT
              have EMR := hide emr
              clear emr
              by_cases hz : mr = 0
              · have HN2 := hide (unhide HNX (by omega))
                have hz1 : ((mr : Int) - 1) = -1 := by omega
                have hzw : IntKind.i64.wrap ((mr : Int) - 1) = -1 := by rw [IntKind.wrap_i64]; omega
                have HZ := hide hz
                clear hz
                go_upto_region 8 with (fail)
                have gt0 := fun x' : Gr wr => gr_cell ((unhide HI).box.cell (i := 1) rfl) x'
                have gsome := gr_some wr
                refine wp_region_grown (by kernel_rfl) (by kernel_rfl) ?_
                repeat (go_big_quiet_step (fail))
                refine wpQuiet_nil ?_
                intro wz hw1
                obtain ⟨z', hz⟩ := hw1
                have hb : Below wr.heap.size wr wz := hz ▸ z'.ok
                clear hz z' gsome gt0
                replace HI := hide ((unhide HI).below hb)
                clear hb b1 hrow
                go_wp2
                go_roundg (n - (q + 1))
                case measure => omega
                case rel => exact ⟨q + 1, k2, R2, A2, C2, _, _, _, false, rfl, by omega, rfl, rfl, by go_num, HI, fun e => (by cases e), fun _ => ⟨rfl, rfl, rfl, rfl, rfl, unhide HN2⟩⟩
              · obtain ⟨ml, eml⟩ : ∃ z, mr = z + 1 := ⟨mr - 1, by omega⟩
                have hz1 : ((mr : Int) - 1) = (ml : Int) := by omega
                have hzw : IntKind.i64.wrap ((mr : Int) - 1) = (ml : Int) := by rw [IntKind.wrap_i64]; omega
                have hzz : (0 : Int) ≤ (ml : Int) := by omega
                have dzz : decide ((0 : Int) ≤ (ml : Int)) = true := by simp
                have hmli : (ml : Int) < (mr : Int) := by omega
                have hcell := ((unhide HI).sy.caps hqR).1.cell (ints_get _ (show ml < (R2.getD q []).length by rw [unhide EMR]; omega))
                have hlast : (R2.getD q []).getLastD 0 = (R2.getD q []).getD ml 0 := by
                  have h1 := (last_at (by rw [unhide EMR]; exact eml : (R2.getD q []).length = ml + 1)).1
                  exact h1.symm
                obtain ⟨y, ey⟩ : ∃ y, y = (R2.getD q []).getD ml 0 := ⟨_, rfl⟩
                rw [← ey] at hcell hlast
                rw [hlast] at HNX HHT
                have hmr0 : 0 < mr := by omega
                obtain ⟨ob', of', eo', hx0⟩ := intAt ((unhide HI).ord wr (unhide HI).kept) (j := 0) (by omega)
                simp only [Option.some.injEq, Addr.mk.injEq, and_true] at eo'
                obtain ⟨rfl, rfl⟩ := eo'
                have hxe : (O.drop k2).getD 0 0 = x := by rw [unhide EX]; simp [List.getD]
                rw [hxe, Nat.add_zero] at hx0
                have HLS := hide hlast
                have EML := hide eml
                clear eml ey hxe hlast hz
                by_cases hyx : y = x
                · have eyx : (y == x) = true := by simpa using hyx
                  have HTP := hide (unhide HHT ⟨hmr0, hyx⟩)
                  have HYX := hide hyx
                  clear hyx
                  go_upto_region 8 with (fail)
                  have gt0 := fun x' : Gr wr => gr_cell ((unhide HI).box.cell (i := 1) rfl) x'
                  have gt1 := fun x' : Gr wr => gr_cell (hrow) x'
                  have gt2 := fun x' : Gr wr => gr_cell (hcell) x'
                  have gt3 := fun x' : Gr wr => gr_cell (hx0) x'
                  have gsome := gr_some wr
                  refine wp_region_grown (by kernel_rfl) (by kernel_rfl) ?_
                  repeat (go_big_quiet_step (fail))
                  refine wpQuiet_nil ?_
                  intro wz hw1
                  obtain ⟨z', hz⟩ := hw1
                  have hb : Below wr.heap.size wr wz := hz ▸ z'.ok
                  clear hz z' gsome gt0 gt1 gt2 gt3
                  replace HI := hide ((unhide HI).below hb)
                  clear hb b1 hrow hcell hx0 eyx
                  have b1 := (unhide HI).box.cell (i := 1) rfl
                  have hrow := ((unhide HI).sy.at hqR).1
                  have hfro := ((unhide HI).sy.at hqR).2
                  rw [unhide EMR] at hrow
                  have hmC : ml ≤ C2 q := by have := unhide EML; omega
                  have hmCi : (ml : Int) ≤ (C2 q : Int) := by omega
                  have hng : ¬ g0 = g := by omega
                  have hng2 : ¬ g = g0 := by omega
                  go_upto_region 9 with (fail)
                  go_cut [] (fun wx => ∃ A3 C3, Hid (FrI U w wx H g g0 cap n O F (k2 + 1) (R2.set q (R2.getD q []).dropLast) A3 C3 (some ⟨ob, if oc2 = 1 then of else of + 1, none⟩) m2 (oc2 - 1)))
                  case first =>
                    go_region
                    all_goals
                      have HTA : Hid ((R2.getD q []).dropLast = (R2.getD q []).take ml) := by show _ = _; rw [dropLast_take, unhide EMR, unhide EML]; rfl
                      have HRW := hide ((unhide HI).sy.row q hqR)
                      rw [unhide EMR] at HRW
                      have hle : ((R2.getD q []).dropLast).length = ml := by rw [List.length_dropLast, unhide EMR, unhide EML]; rfl
                      have HSN := hide ((unhide HI).sy.put (row := (R2.getD q []).dropLast) (g' := A2 q) (cap' := C2 q) hqR (Kept.refl _ wz) (by rw [hle, unhide HTA]; exact (unhide HRW).cut (n := ml) (by have := unhide EML; omega)) (Or.inl rfl))
                      rw [hle] at HSN
                      have hk : Kept (fun k => k = g) wz (wz.setCell ⟨g, q, none⟩ (.slice (some ⟨A2 q, 0, none⟩) ml (C2 q))) := (Kept.refl (fun k => k = g) _).setCell (p := ⟨g, q, none⟩) rfl _
                      have HIN : Hid (FrI U w (wz.setCell ⟨g, q, none⟩ (.slice (some ⟨A2 q, 0, none⟩) ml (C2 q))).drew H g g0 cap n O F (k2 + 1) (R2.set q (R2.getD q []).dropLast) (fun r => if r = q then A2 q else A2 r) (fun r => if r = q then C2 q else C2 r) (some ⟨ob, if oc2 = 1 then of else of + 1, none⟩) m2 (oc2 - 1)) := by
                        have hkO2 : k2 < O.length := hkO
                        have hfr := unhide HFR
                        rw [show O.length - k2 = (O.length - (k2 + 1)) + 1 by omega, free_hit (unhide HTP)] at hfr
                        refine ⟨(unhide HSN).below (Below.refl _ _).drew, by rw [List.length_set]; exact (unhide HI).len, dropLast_okJ (unhide HI).ok hqR, (unhide HI).st.cut hkO2 (unhide HTP), hfr, fun V hV => ?_, unhide HM2, ((unhide HI).box.kept hk (by omega)).step (Below.refl _ _).drew, ((unhide HI).kept.trans (hk.mono (fun k _ e => e ▸ (unhide HI).sy.ug))).trans (kept_of_below (Below.refl _ _).drew)⟩
                        have h1 := (unhide HI).ord V hV
                        rw [unhide EM2] at h1
                        have h2 := ints_tail h1
                        rw [List.drop_drop] at h2
                        exact h2
                      clear hk hle
                      go_wp2_with fail
                      go_meet
                      exact ⟨_, _, HIN⟩
                  case rest =>
                    obtain ⟨A3, C3, HI3⟩ := hcut
                    have htl := fun W => run_tailJ ob of m2 oc2 (by have := unhide HC1; omega) W
                    rw [← unhide EM2] at htl
                    obtain ⟨o2, eo2⟩ : ∃ z, z = if oc2 = 1 then of else of + 1 := ⟨_, rfl⟩
                    rw [← eo2] at HI3 htl
                    clear eo2 b1 hrow hfro
                    go_wp2
                    go_roundg (n - (q + 1))
                    case measure => omega
                    case rel => exact ⟨q + 1, k2 + 1, _, A3, C3, _, _, _, true, rfl, by omega, rfl, rfl, by go_num, HI3, fun _ => rfl, fun e => (by cases e)⟩
                · have eyx : (y == x) = false := by simpa using hyx
                  have HN2 := hide (unhide HNX (fun h => hyx h.2))
                  clear hyx
                  go_upto_region 8 with (fail)
                  have gt0 := fun x' : Gr wr => gr_cell ((unhide HI).box.cell (i := 1) rfl) x'
                  have gt1 := fun x' : Gr wr => gr_cell (hrow) x'
                  have gt2 := fun x' : Gr wr => gr_cell (hcell) x'
                  have gt3 := fun x' : Gr wr => gr_cell (hx0) x'
                  have gsome := gr_some wr
                  refine wp_region_grown (by kernel_rfl) (by kernel_rfl) ?_
                  repeat (go_big_quiet_step (fail))
                  refine wpQuiet_nil ?_
                  intro wz hw1
                  obtain ⟨z', hz⟩ := hw1
                  have hb : Below wr.heap.size wr wz := hz ▸ z'.ok
                  clear hz z' gsome gt0 gt1 gt2 gt3
                  replace HI := hide ((unhide HI).below hb)
                  clear hb b1 hrow hcell hx0 eyx
                  go_wp2
                  go_roundg (n - (q + 1))
                  case measure => omega
                  case rel => exact ⟨q + 1, k2, R2, A2, C2, _, _, _, false, rfl, by omega, rfl, rfl, by go_num, HI, fun e => (by cases e), fun _ => ⟨rfl, rfl, rfl, rfl, rfl, unhide HN2⟩⟩
            · have dq : decide ((q : Int) < (n : Int)) = false := by simp; omega
              have dqi : ¬ ((q : Int) < (n : Int)) := by omega
              have HRF : Hid (false = false → F = (R2, k2)) := fun _ => by
                have h1 := unhide HFR
                rw [free_mis (topR_none fun s hs => by rw [← unhide EX]; exact unhide HNS s (by have := (unhide HI).len; omega))] at h1
                exact h1
              go_wp2
              go_roundg (2 * (O.length - k2))
              case measure => simp
              case rel => exact ⟨k2, R2, A2, C2, _, _, _, false, by simp, rfl, rfl, HI, fun _ => unhide HRF (by first | rfl | trivial)⟩

end Go.Proofs.Ytdiifkeebgdfkaa

namespace Go.Proofs.Ytdiifkeebgdfkaa
open Go.RowKit

theorem cpA_syK {w w' : World} {H : Int} {R : List (List Int)} {e : Ending} (h : CpA w H R e w') (hn : 1 ≤ R.length) : ∃ g A C cap, e = .returned (yardV H (.slice (some ⟨g, 0, none⟩) R.length cap)) ∧ R.length ≤ cap ∧ cap ≤ maxLen ∧ SY (fun k => w.heap.size ≤ k) w' g A C R ∧ Below w.heap.size w w' := by
  obtain ⟨ao, n, cap, rfl, hb, h⟩ := h
  rcases h with ⟨rfl, rfl, rfl, rfl⟩ | ⟨g, A, C, rfl, rfl, h1, h2, hs⟩
  · simp at hn
  · exact ⟨g, A, C, cap, rfl, h1, h2, hs, hb⟩
theorem SY.old {U : Nat → Prop} {w : World} {g : Nat} {A C : Nat → Nat} {R : List (List Int)} (h : SY U w g A C R) : SY (fun k => U k ∧ k < w.heap.size) w g A C R :=
  ⟨h.top, h.row, ⟨h.ug, h.top.lt⟩, fun r hr => ⟨h.ua r hr, (h.caps hr).2.2.2⟩, h.off, h.apart⟩
theorem SY.under6 {N : Nat} {w w' : World} {g : Nat} {A C : Nat → Nat} {R : List (List Int)} (h : SY (fun k => N ≤ k) w g A C R) (hb : Below w.heap.size w w') : SY (fun k => N ≤ k ∧ k ≠ w.heap.size) w' g A C R :=
  SY.below ⟨h.top, h.row, ⟨h.ug, Nat.ne_of_lt h.top.lt⟩, fun r hr => ⟨h.ua r hr, Nat.ne_of_lt (h.caps hr).2.2.2⟩, h.off, h.apart⟩ hb
theorem blkA_drop {H : Int} {R : List (List Int)} {O : List Int} {k : Nat} (hy : YOk H R) (hs : StO O R k) (h7 : O.length ≤ 7) : blkA H R (O.drop k) = .tuple #[.int .i64 ((blkP (pilesOf O R) : Nat) : Int), .bool true] := by
  have hnd : (O.drop k).Nodup := (List.drop_sublist k O).nodup hs.nod
  rw [blkA_ok ⟨hy, by rw [List.length_drop]; omega, hnd⟩, blk_drop hs]
theorem goAB_r {H : Int} {R : List (List Int)} {O : List Int} {a b : Nat} (ha : a < R.length) (hb : b < R.length) : goAB H (pilesOf O R) a b = (decide (a ≠ b) && (decide (0 < (R.getD a []).length) && decide (((R.getD b []).length : Int) < H))) := by
  rw [goAB, piles_get O ha, piles_get O hb, turns_len, turns_len]

set_option maxRecDepth 100000 in
set_option maxHeartbeats 16000000 in
theorem l18Can_any (H : Int) (O : List Int) (hO7 : O.length ≤ 7) : ∀ (m : Nat) (v : Value) (R : List (List Int)) (k : Nat) (oa : Option Addr) (om oc : Nat) (w : World), RowsIn w v R → YOk H R → StO O R k → IntsIn w (.slice oa om oc) (O.drop k) → m ≤ 8 →
    Calls Try.prog 67 #[yardV H v, .slice oa om oc, .int .i64 (m : Int)] w fun e w' => e = .returned (.bool (canP H O.length m (pilesOf O R) k)) ∧ Below w.heap.size w w' := by
  intro m
  induction m with
  | zero =>
    intro v R k oa om oc w h hy hst hO hm
    obtain ⟨A0, eA⟩ : ∃ A, A = canP H O.length 0 (pilesOf O R) k := ⟨_, rfl⟩
    rw [← eA]
    have EA := hide eA
    clear eA
    have hn1 := hy.n1
    have hn2 := hy.n2
    have hH2 := hy.h2
    obtain ⟨hfe, hs1, hfb⟩ := free_eq (n := O.length - k) hst (by have := hst.kl; omega)
    obtain ⟨hy1, hr1⟩ := free_ok (O := O) (n := O.length - k) (k := k) hy
    have hfd := free_done hst
    have HFREE := hide fun U go c1 A C oa om oc W (h : SY U W go A C R) h1 h2 hO => l18Free_any U H go c1 A C R O k oa om oc W h hy hst h1 h2 hO hO7
    obtain ⟨n, en⟩ : ∃ n, n = R.length := ⟨_, rfl⟩
    have EN := hide en
    obtain ⟨ao, cap, rfl, hcc1, hcc2⟩ := rows_cap h
    have HCP := hide fun W (hb : Below w.heap.size w W) => l18Copy_any H (.slice ao R.length cap) R W (h.below hb) (by omega) (fun s hs => by have := hy.low s hs; have := hy.h2; omega)
    have HOW := hide fun V (hb : Below w.heap.size w V) => hO.below hb
    obtain ⟨⟨R1, k1⟩, eF⟩ : ∃ F, F = freeR O (O.length - k) R k := ⟨_, rfl⟩
    rw [← eF] at hfe hs1 hy1 hr1 hfd HFREE
    dsimp only at hfe hs1 hy1 hr1 hfd
    have HFE := hide hfe
    have HS1 := hide hs1
    have HY1 := hide hy1
    rw [← en] at hr1 HCP hn1 hn2 hcc1 ⊢
    have HR1 : Hid (R1.length = n) := hr1
    obtain ⟨B, eB⟩ : ∃ B, B = blkP (pilesOf O R1) := ⟨_, rfl⟩
    rw [← eB] at hfd
    have EB := hide eB
    have HBE : Hid (blkP (freeP (O.length - k) (pilesOf O R) k).1 = B) := by show _ = _; rw [unhide HFE]; exact eB.symm
    have HBL : Hid (blkA H R1 (O.drop k1) = .tuple #[.int .i64 ((B : Nat) : Int), .bool true]) := by show _ = _; rw [eB]; exact blkA_drop hy1 hs1 hO7
    have hB7 : B ≤ 72 := by
      rw [eB]
      have h1 : ∀ P : List (List Int), (∀ p, p ∈ P → inW p ≤ 6) → blkP P ≤ 6 * P.length := fun P => by
        induction P with
        | nil => intro _; simp [blkP]
        | cons p P ih =>
          intro hp
          have h2 := ih fun q hq => hp q (by simp [hq])
          have h3 := hp p (by simp)
          simp only [blkP, List.map_cons, List.sum_cons, List.length_cons] at h2 ⊢
          omega
      have h4 := h1 (pilesOf O R1) fun p hp => by
        unfold pilesOf at hp
        obtain ⟨r, hr, rfl⟩ := List.mem_map.1 hp
        have h5 := inW_le (turnsOf O r)
        rw [turns_len] at h5
        obtain ⟨s, hs, rfl⟩ := List.mem_iff_getElem.1 hr
        have h6 := hy1.low s hs
        rw [getD_lt hs] at h6
        have := hy1.h2
        omega
      rw [piles_len, hr1] at h4
      omega
    have hk1 := hs1.kl
    have HFD := hide hfd
    clear h hy hst hO hfe hs1 hy1 hr1 hfb hfd eF en eB
    unfold yardV at HCP ⊢
    go_enter Try.func67, Try.ntmps67
    go_upto_region 1 with (fail)
    obtain ⟨g0, eg0⟩ : ∃ z, z = w.heap.size := ⟨_, rfl⟩
    obtain ⟨W, eW⟩ : ∃ z, z = w.alloc (.cells #[.int .i64 H, .slice ao n cap] 26) := ⟨_, rfl⟩
    have HW : Hid (Below w.heap.size w W) := by rw [eW]; exact Below.alloc1 _ _
    have HB : Hid (OwnV W g0 [.int .i64 H, .slice ao n cap]) := by rw [eW, eg0]; exact ownV_alloc _ _ _
    rw [← eW, ← eg0]
    have hg0 : w.heap.size ≤ g0 := by omega
    clear eW eg0
    have hgW := (unhide HB).lt
    have b0 := (unhide HB).cell (i := 0) rfl
    have b1 := (unhide HB).cell (i := 1) rfl
    go_wp2_with fail
    refine (unhide HCP _ (unhide HW)).mono ?_
    intro e w1 hcp
    obtain ⟨go, A, C, c1, rfl, hc1, hc2, hS, hb⟩ := cpA_syK hcp (by have := unhide EN; omega)
    rw [← unhide EN] at hc1 ⊢
    replace HW := hide (Below.step (unhide HW) hb)
    replace HB := hide ((unhide HB).step hb)
    obtain ⟨gW, egW⟩ : ∃ z, z = W.heap.size := ⟨_, rfl⟩
    rw [← egW] at hS hgW
    have hgw1 : gW ≤ w1.heap.size := by rw [egW]; exact hb.size
    clear hcp b0 b1 hb egW HCP
    unfold yardV
    unfold maxLen at hc2
    have r0 := (unhide HB).cell (i := 0) rfl
    have r1 := (unhide HB).cell (i := 1) rfl
    have rf0 := (unhide HB).frozen 0
    have rf1 := (unhide HB).frozen 1
    go_upto_region 2 with (fail)
    obtain ⟨w2, ew2⟩ : ∃ z, z = (w1.setCell ⟨g0, 0, none⟩ (.int .i64 H)).setCell ⟨g0, 1, none⟩ (.slice (some ⟨go, 0, none⟩) n c1) := ⟨_, rfl⟩
    have hk : Kept (fun b => b = g0) w1 w2 := by rw [ew2]; exact ((Kept.refl (fun b => b = g0) _).setCell (p := ⟨g0, 0, none⟩) rfl _).setCell (p := ⟨g0, 1, none⟩) rfl _
    have HB2 : Hid (OwnV w2 g0 [.int .i64 H, .slice (some ⟨go, 0, none⟩) n c1]) := by rw [ew2]; exact ((unhide HB).set 0 (.int .i64 H) (by simp)).set 1 (.slice (some ⟨go, 0, none⟩) n c1) (by simp)
    rw [← ew2]
    have hWB := unhide HW
    replace HW := hide (below_keptJ hWB hk hWB.size (fun b e => by omega))
    have HS := hide (hS.kept hk (fun k hk' e => by omega))
    have hgw : gW ≤ w2.heap.size := Nat.le_trans hgw1 hk.size
    clear ew2 hk HB hWB hS r0 r1 rf0 rf1 hgw1
    obtain ⟨U, eU⟩ : ∃ z : Nat → Prop, z = fun k => gW ≤ k := ⟨_, rfl⟩
    rw [← eU] at HS
    have HUG : Hid (∀ k, gW ≤ k → U k) := fun k hk => by rw [eU]; exact hk
    have HUL : Hid (∀ k, U k → gW ≤ k) := fun k hk => by rw [eU] at hk; exact hk
    clear eU
    have HFQ := hide (unhide HFREE U go c1 A C oa om oc w2 (unhide HS) (by rw [← unhide EN]; exact hc1) (by unfold maxLen; omega) (fun V hV => unhide HOW V (below_keptJ (unhide HW) hV (unhide HW).size (fun k e => by have := unhide HUL k e; omega))))
    rw [← unhide EN] at HFQ
    unfold yardV at HFQ
    have b0 := (unhide HB2).cell (i := 0) rfl
    have b1 := (unhide HB2).cell (i := 1) rfl
    go_wp2_with fail
    refine (unhide HFQ).mono ?_
    intro e w3 hfa
    obtain ⟨oa1, om1, oc1, A1, C1, rfl, hom, hS1, hOI, hk⟩ := hfa
    dsimp only at hom hS1 hOI
    have HB := hide ((unhide HB2).kept hk (fun e => by have := unhide HUL _ e; omega))
    have hWB := unhide HW
    replace HW := hide (below_keptJ hWB hk hWB.size (fun k e => by have := unhide HUL k e; omega))
    have HKU := hide hk
    clear HS
    have HS := hide hS1
    have HOI := hide hOI
    clear HB2 hWB hS1 hOI hk b0 b1 HFQ HFREE HOW
    by_cases hB : B = 0
    · have HEV := hide ((unhide EA).trans (can_zero (H := H) (L := O.length) (m := 0) (P := pilesOf O R) (k := k) (by rw [unhide HBE]; omega)))
      have eom : ((om1 : Int) == 0) = true := by have := (unhide HFD).1 hB; simp; omega
      clear hB hom
      go_wp2
      go_ret
      exact ⟨by rw [unhide HEV]; rfl, unhide HW⟩
    · have HEV := hide ((unhide EA).trans (can_less (H := H) (L := O.length) (m := 0) (P := pilesOf O R) (k := k) (by rw [unhide HBE]; omega)))
      have eom : ((om1 : Int) == 0) = false := by simp; intro e; exact hB ((unhide HFD).2 (by omega))
      have hrs := (unhide HS).rows (cap := c1) (by rw [unhide HR1]; exact hc1) (by unfold maxLen; omega)
      rw [unhide HR1] at hrs
      have HBQ := hide (specBlocking_a H (.slice (some ⟨go, 0, none⟩) n c1) R1 (.slice oa1 om1 oc1) (O.drop k1) w3 hrs (unhide HOI _ (unhide HKU)))
      rw [unhide HBL] at HBQ
      unfold yardV at HBQ
      clear hrs hom
      have b0 := (unhide HB).cell (i := 0) rfl
      have b1 := (unhide HB).cell (i := 1) rfl
      go_wp2_with fail
      refine (unhide HBQ).mono ?_
      rintro e w4 ⟨rfl, hb⟩
      replace HW := hide (Below.step (unhide HW) hb)
      replace HB := hide ((unhide HB).step hb)
      replace HS := hide ((unhide HS).below hb)
      replace HKU := hide ((unhide HKU).trans (kept_of_below hb))
      clear hb b0 b1 HBQ eom
      have eBm : decide ((0 : Int) < (B : Int)) = true := by simp; omega
      have eBm2 : (0 : Int) < (B : Int) := by omega
      go_wp2
      go_ret
      exact ⟨by rw [unhide HEV]; rfl, unhide HW⟩
  | succ m ih =>
    intro v R k oa om oc w h hy hst hO hm
    have IH := hide ih
    clear ih
    obtain ⟨A0, eA⟩ : ∃ A, A = canP H O.length (m + 1) (pilesOf O R) k := ⟨_, rfl⟩
    rw [← eA]
    have EA := hide eA
    clear eA
    have hn1 := hy.n1
    have hn2 := hy.n2
    have hH2 := hy.h2
    obtain ⟨hfe, hs1, hfb⟩ := free_eq (n := O.length - k) hst (by have := hst.kl; omega)
    obtain ⟨hy1, hr1⟩ := free_ok (O := O) (n := O.length - k) (k := k) hy
    have hfd := free_done hst
    have HFREE := hide fun U go c1 A C oa om oc W (h : SY U W go A C R) h1 h2 hO => l18Free_any U H go c1 A C R O k oa om oc W h hy hst h1 h2 hO hO7
    obtain ⟨n, en⟩ : ∃ n, n = R.length := ⟨_, rfl⟩
    have EN := hide en
    obtain ⟨ao, cap, rfl, hcc1, hcc2⟩ := rows_cap h
    have HCP := hide fun W (hb : Below w.heap.size w W) => l18Copy_any H (.slice ao R.length cap) R W (h.below hb) (by omega) (fun s hs => by have := hy.low s hs; have := hy.h2; omega)
    have HOW := hide fun V (hb : Below w.heap.size w V) => hO.below hb
    obtain ⟨⟨R1, k1⟩, eF⟩ : ∃ F, F = freeR O (O.length - k) R k := ⟨_, rfl⟩
    rw [← eF] at hfe hs1 hy1 hr1 hfd HFREE
    dsimp only at hfe hs1 hy1 hr1 hfd
    have HFE := hide hfe
    have HS1 := hide hs1
    have HY1 := hide hy1
    rw [← en] at hr1 HCP hn1 hn2 hcc1 ⊢
    have HR1 : Hid (R1.length = n) := hr1
    obtain ⟨B, eB⟩ : ∃ B, B = blkP (pilesOf O R1) := ⟨_, rfl⟩
    rw [← eB] at hfd
    have EB := hide eB
    have HBE : Hid (blkP (freeP (O.length - k) (pilesOf O R) k).1 = B) := by show _ = _; rw [unhide HFE]; exact eB.symm
    have HBL : Hid (blkA H R1 (O.drop k1) = .tuple #[.int .i64 ((B : Nat) : Int), .bool true]) := by show _ = _; rw [eB]; exact blkA_drop hy1 hs1 hO7
    have hB7 : B ≤ 72 := by
      rw [eB]
      have h1 : ∀ P : List (List Int), (∀ p, p ∈ P → inW p ≤ 6) → blkP P ≤ 6 * P.length := fun P => by
        induction P with
        | nil => intro _; simp [blkP]
        | cons p P ih =>
          intro hp
          have h2 := ih fun q hq => hp q (by simp [hq])
          have h3 := hp p (by simp)
          simp only [blkP, List.map_cons, List.sum_cons, List.length_cons] at h2 ⊢
          omega
      have h4 := h1 (pilesOf O R1) fun p hp => by
        unfold pilesOf at hp
        obtain ⟨r, hr, rfl⟩ := List.mem_map.1 hp
        have h5 := inW_le (turnsOf O r)
        rw [turns_len] at h5
        obtain ⟨s, hs, rfl⟩ := List.mem_iff_getElem.1 hr
        have h6 := hy1.low s hs
        rw [getD_lt hs] at h6
        have := hy1.h2
        omega
      rw [piles_len, hr1] at h4
      omega
    have hk1 := hs1.kl
    have HFD := hide hfd
    clear h hy hst hO hfe hs1 hy1 hr1 hfb hfd eF en eB
    unfold yardV at HCP ⊢
    go_enter Try.func67, Try.ntmps67
    go_upto_region 1 with (fail)
    obtain ⟨g0, eg0⟩ : ∃ z, z = w.heap.size := ⟨_, rfl⟩
    obtain ⟨W, eW⟩ : ∃ z, z = w.alloc (.cells #[.int .i64 H, .slice ao n cap] 26) := ⟨_, rfl⟩
    have HW : Hid (Below w.heap.size w W) := by rw [eW]; exact Below.alloc1 _ _
    have HB : Hid (OwnV W g0 [.int .i64 H, .slice ao n cap]) := by rw [eW, eg0]; exact ownV_alloc _ _ _
    rw [← eW, ← eg0]
    have hg0 : w.heap.size ≤ g0 := by omega
    clear eW eg0
    have hgW := (unhide HB).lt
    have b0 := (unhide HB).cell (i := 0) rfl
    have b1 := (unhide HB).cell (i := 1) rfl
    go_wp2_with fail
    refine (unhide HCP _ (unhide HW)).mono ?_
    intro e w1 hcp
    obtain ⟨go, A, C, c1, rfl, hc1, hc2, hS, hb⟩ := cpA_syK hcp (by have := unhide EN; omega)
    rw [← unhide EN] at hc1 ⊢
    replace HW := hide (Below.step (unhide HW) hb)
    replace HB := hide ((unhide HB).step hb)
    obtain ⟨gW, egW⟩ : ∃ z, z = W.heap.size := ⟨_, rfl⟩
    rw [← egW] at hS hgW
    have hgw1 : gW ≤ w1.heap.size := by rw [egW]; exact hb.size
    clear hcp b0 b1 hb egW HCP
    unfold yardV
    unfold maxLen at hc2
    have r0 := (unhide HB).cell (i := 0) rfl
    have r1 := (unhide HB).cell (i := 1) rfl
    have rf0 := (unhide HB).frozen 0
    have rf1 := (unhide HB).frozen 1
    go_upto_region 2 with (fail)
    obtain ⟨w2, ew2⟩ : ∃ z, z = (w1.setCell ⟨g0, 0, none⟩ (.int .i64 H)).setCell ⟨g0, 1, none⟩ (.slice (some ⟨go, 0, none⟩) n c1) := ⟨_, rfl⟩
    have hk : Kept (fun b => b = g0) w1 w2 := by rw [ew2]; exact ((Kept.refl (fun b => b = g0) _).setCell (p := ⟨g0, 0, none⟩) rfl _).setCell (p := ⟨g0, 1, none⟩) rfl _
    have HB2 : Hid (OwnV w2 g0 [.int .i64 H, .slice (some ⟨go, 0, none⟩) n c1]) := by rw [ew2]; exact ((unhide HB).set 0 (.int .i64 H) (by simp)).set 1 (.slice (some ⟨go, 0, none⟩) n c1) (by simp)
    rw [← ew2]
    have hWB := unhide HW
    replace HW := hide (below_keptJ hWB hk hWB.size (fun b e => by omega))
    have HS := hide (hS.kept hk (fun k hk' e => by omega))
    have hgw : gW ≤ w2.heap.size := Nat.le_trans hgw1 hk.size
    clear ew2 hk HB hWB hS r0 r1 rf0 rf1 hgw1
    obtain ⟨U, eU⟩ : ∃ z : Nat → Prop, z = fun k => gW ≤ k := ⟨_, rfl⟩
    rw [← eU] at HS
    have HUG : Hid (∀ k, gW ≤ k → U k) := fun k hk => by rw [eU]; exact hk
    have HUL : Hid (∀ k, U k → gW ≤ k) := fun k hk => by rw [eU] at hk; exact hk
    clear eU
    have HFQ := hide (unhide HFREE U go c1 A C oa om oc w2 (unhide HS) (by rw [← unhide EN]; exact hc1) (by unfold maxLen; omega) (fun V hV => unhide HOW V (below_keptJ (unhide HW) hV (unhide HW).size (fun k e => by have := unhide HUL k e; omega))))
    rw [← unhide EN] at HFQ
    unfold yardV at HFQ
    have b0 := (unhide HB2).cell (i := 0) rfl
    have b1 := (unhide HB2).cell (i := 1) rfl
    go_wp2_with fail
    refine (unhide HFQ).mono ?_
    intro e w3 hfa
    obtain ⟨oa1, om1, oc1, A1, C1, rfl, hom, hS1, hOI, hk⟩ := hfa
    dsimp only at hom hS1 hOI
    have HB := hide ((unhide HB2).kept hk (fun e => by have := unhide HUL _ e; omega))
    have hWB := unhide HW
    replace HW := hide (below_keptJ hWB hk hWB.size (fun k e => by have := unhide HUL k e; omega))
    have HKU := hide hk
    clear HS
    have HS := hide hS1
    have HOI := hide hOI
    clear HB2 hWB hS1 hOI hk b0 b1 HFQ HFREE HOW
    by_cases hB : B = 0
    · have HEV := hide ((unhide EA).trans (can_zero (H := H) (L := O.length) (m := (m + 1)) (P := pilesOf O R) (k := k) (by rw [unhide HBE]; omega)))
      have eom : ((om1 : Int) == 0) = true := by have := (unhide HFD).1 hB; simp; omega
      clear hB hom
      go_wp2
      go_ret
      exact ⟨by rw [unhide HEV]; rfl, unhide HW⟩
    · by_cases hBm : m + 1 < B
      · have HEV := hide ((unhide EA).trans (can_less (H := H) (L := O.length) (m := m + 1) (P := pilesOf O R) (k := k) (by rw [unhide HBE]; omega)))
        have eom : ((om1 : Int) == 0) = false := by simp; intro e; exact hB ((unhide HFD).2 (by omega))
        have hrs := (unhide HS).rows (cap := c1) (by rw [unhide HR1]; exact hc1) (by unfold maxLen; omega)
        rw [unhide HR1] at hrs
        have HBQ := hide (specBlocking_a H (.slice (some ⟨go, 0, none⟩) n c1) R1 (.slice oa1 om1 oc1) (O.drop k1) w3 hrs (unhide HOI _ (unhide HKU)))
        rw [unhide HBL] at HBQ
        unfold yardV at HBQ
        clear hrs hom
        have b0 := (unhide HB).cell (i := 0) rfl
        have b1 := (unhide HB).cell (i := 1) rfl
        go_wp2_with fail
        refine (unhide HBQ).mono ?_
        rintro e w4 ⟨rfl, hb⟩
        replace HW := hide (Below.step (unhide HW) hb)
        replace HB := hide ((unhide HB).step hb)
        replace HS := hide ((unhide HS).below hb)
        replace HKU := hide ((unhide HKU).trans (kept_of_below hb))
        clear hb b0 b1 HBQ eom
        have eBm : decide (((m : Int) + 1) < (B : Int)) = true := by simp; omega
        have eBm2 : ((m : Int) + 1) < (B : Int) := by omega
        go_wp2
        go_ret
        exact ⟨by rw [unhide HEV]; rfl, unhide HW⟩
      · have hEV := (unhide EA).trans (can_any (H := H) (L := O.length) (m := m) (P := pilesOf O R) (k := k) (by rw [unhide HBE]; omega) (by rw [unhide HBE]; omega))
        rw [unhide HFE] at hEV
        dsimp only at hEV
        rw [piles_len, unhide HR1] at hEV
        obtain ⟨f, ef⟩ : ∃ f : Nat → Nat → Bool, f = fun a b => goAB H (pilesOf O R1) a b && canP H O.length m (shiftP (pilesOf O R1) a b) k1 := ⟨_, rfl⟩
        rw [← ef] at hEV
        have HEV := hide hEV
        have HFG : Hid (∀ a b, a < n → b < n → (a = b ∨ (R1.getD a []).length = 0 ∨ ((R1.getD b []).length : Int) = H) → f a b = false) := fun a b ha hb h => by
          have hR := unhide HR1
          rw [ef]
          dsimp only
          rw [goAB_r (by omega) (by omega)]
          rcases h with h | h | h
          · simp [h]
          · have : decide (0 < (R1.getD a []).length) = false := decide_eq_false (by omega)
            rw [this]; simp
          · have : decide (((R1.getD b []).length : Int) < H) = false := decide_eq_false (by omega)
            rw [this]; simp
        have HFC : Hid (∀ a b, a < n → b < n → a ≠ b → 0 < (R1.getD a []).length → ((R1.getD b []).length : Int) < H → f a b = canP H O.length m (pilesOf O (shiftY R1 a b)) k1) := fun a b ha hb h1 h2 h3 => by
          have hR := unhide HR1
          rw [ef]
          dsimp only
          rw [goAB_r (by omega) (by omega), shift_piles (by omega) (by omega) h1 h2]
          rw [decide_eq_true h1, decide_eq_true h2, decide_eq_true h3]
          rfl
        clear ef hEV
        have eom : ((om1 : Int) == 0) = false := by simp; intro e; exact hB ((unhide HFD).2 (by omega))
        have hrs := (unhide HS).rows (cap := c1) (by rw [unhide HR1]; exact hc1) (by unfold maxLen; omega)
        rw [unhide HR1] at hrs
        have HBQ := hide (specBlocking_a H (.slice (some ⟨go, 0, none⟩) n c1) R1 (.slice oa1 om1 oc1) (O.drop k1) w3 hrs (unhide HOI _ (unhide HKU)))
        rw [unhide HBL] at HBQ
        unfold yardV at HBQ
        clear hrs hom
        have b0 := (unhide HB).cell (i := 0) rfl
        have b1 := (unhide HB).cell (i := 1) rfl
        go_wp2_with fail
        refine (unhide HBQ).mono ?_
        rintro e w4 ⟨rfl, hb⟩
        replace HW := hide (Below.step (unhide HW) hb)
        replace HB := hide ((unhide HB).step hb)
        replace HS := hide ((unhide HS).below hb)
        replace HKU := hide ((unhide HKU).trans (kept_of_below hb))
        clear hb b0 b1 HBQ eom
        have eBm : decide ((((m + 1 : Nat) : Int)) < (B : Int)) = false := by simp; omega
        have eBm2 : ¬ ((m : Int) + 1 < (B : Int)) := by omega
        have em0 : decide ((0 : Int) < ((m : Int) + 1)) = true := decide_eq_true (by omega)
        have em1 : ((0 : Int) < ((m : Int) + 1)) := by omega
        have HBB := hide hB
        clear hB
        go_wp2
        go_loopg [9] n (fun gh iv wr => ∃ a : Nat, a ≤ n ∧ gh = n - a ∧ iv = .int .i64 a ∧ Hid (∀ a', a' < a → ∀ b, b < n → f a' b = false) ∧ Hid (Below w.heap.size w wr) ∧ Hid (OwnV wr g0 [.int .i64 H, .slice (some ⟨go, 0, none⟩) n c1]) ∧ Hid (SY U wr go A1 C1 R1) ∧ Hid (Kept U w2 wr))
        case atStart => exact ⟨0, Nat.zero_le _, rfl, rfl, fun a' h => absurd h (Nat.not_lt_zero a'), HW, HB, HS, HKU⟩
        case round =>
          clear HW HB HS HKU
          obtain ⟨a, ha, rfl, rfl, HFA, HW, HB, HS, HKU⟩ := hrel
          have b1 := (unhide HB).cell (i := 1) rfl
          by_cases han : a < n
          · have hai : (a : Int) < (n : Int) := by omega
            have dai : decide ((a : Int) < (n : Int)) = true := by simp; omega
            go_wp2
            clear b1
            go_loopg [10] n (fun gh iv wr => ∃ b : Nat, b ≤ n ∧ gh = n - b ∧ iv = .int .i64 b ∧ Hid (∀ b', b' < b → f a b' = false) ∧ Hid (Below w.heap.size w wr) ∧ Hid (OwnV wr g0 [.int .i64 H, .slice (some ⟨go, 0, none⟩) n c1]) ∧ Hid (SY U wr go A1 C1 R1) ∧ Hid (Kept U w2 wr))
            case atStart => exact ⟨0, Nat.zero_le _, rfl, rfl, fun a' h => absurd h (Nat.not_lt_zero a'), HW, HB, HS, HKU⟩
            case round =>
              clear HW HB HS HKU
              obtain ⟨b, hb0, rfl, rfl, HFB, HW, HB, HS, HKU⟩ := hrel
              have b0 := (unhide HB).cell (i := 0) rfl
              have b1 := (unhide HB).cell (i := 1) rfl
              by_cases hbn : b < n
              · have hbi : (b : Int) < (n : Int) := by omega
                have haR : a < R1.length := by have := unhide HR1; omega
                have hbR : b < R1.length := by have := unhide HR1; omega
                have hra := ((unhide HS).at haR).1
                have hrb := ((unhide HS).at hbR).1
                have h6a := (unhide HY1).low a haR
                have h6b := (unhide HY1).low b hbR
                have HNX : Hid (f a b = false → ∀ b', b' < b + 1 → f a b' = false) := fun h b' hb' => by
                  by_cases e : b' = b
                  · subst e; exact h
                  · exact unhide HFB b' (by omega)
                have HFG1 := hide (unhide HFG a b han hbn)
                have HFC1 := hide (unhide HFC a b han hbn)
                obtain ⟨ra, era⟩ : ∃ z, (R1.getD a []).length = z := ⟨_, rfl⟩
                obtain ⟨rb, erb⟩ : ∃ z, (R1.getD b []).length = z := ⟨_, rfl⟩
                rw [era] at hra h6a HFG1 HFC1
                rw [erb] at hrb h6b HFG1 HFC1
                have ERA := hide era
                have ERB := hide erb
                clear era erb
                go_upto_region 14 with (fail)
                clear b0 b1
                by_cases hab : a = b
                · have eab : ((a : Int) == (b : Int)) = true := by simp [hab]
                  have HN := hide (unhide HNX (unhide HFG1 (Or.inl hab)))
                  have HAB := hide hab
                  clear hab
                  have gt0 := fun x' : Gr wr => gr_cell ((unhide HB).cell (i := 0) rfl) x'
                  have gt1 := fun x' : Gr wr => gr_cell ((unhide HB).cell (i := 1) rfl) x'
                  have gsome := gr_some wr
                  refine wp_region_grown (by kernel_rfl) (by kernel_rfl) ?_
                  repeat (go_big_quiet_step (fail))
                  refine wpQuiet_nil ?_
                  intro wz hw1
                  obtain ⟨z', hz⟩ := hw1
                  have hb : Below wr.heap.size wr wz := hz ▸ z'.ok
                  clear hz z' gsome gt0 gt1
                  replace HW := hide (Below.step (unhide HW) hb)
                  replace HB := hide ((unhide HB).step hb)
                  replace HS := hide ((unhide HS).below hb)
                  replace HKU := hide ((unhide HKU).trans (kept_of_below hb))
                  clear hb
                  go_wp2
                  go_roundg (n - (b + 1))
                  case measure => omega
                  case rel => exact ⟨b + 1, by omega, rfl, by go_num, HN, HW, HB, HS, HKU⟩
                · have eab : ((a : Int) == (b : Int)) = false := by simp; omega
                  by_cases hz : ra = 0
                  · have ez : ((ra : Int) == 0) = true := by simp [hz]
                    have HN := hide (unhide HNX (unhide HFG1 (Or.inr (Or.inl hz))))
                    have HZ := hide hz
                    clear hz
                    have gt0 := fun x' : Gr wr => gr_cell ((unhide HB).cell (i := 0) rfl) x'
                    have gt1 := fun x' : Gr wr => gr_cell ((unhide HB).cell (i := 1) rfl) x'
                    have gt2 := fun x' : Gr wr => gr_cell (hra) x'
                    have gsome := gr_some wr
                    refine wp_region_grown (by kernel_rfl) (by kernel_rfl) ?_
                    repeat (go_big_quiet_step (fail))
                    refine wpQuiet_nil ?_
                    intro wz hw1
                    obtain ⟨z', hz⟩ := hw1
                    have hb : Below wr.heap.size wr wz := hz ▸ z'.ok
                    clear hz z' gsome gt0 gt1 gt2
                    replace HW := hide (Below.step (unhide HW) hb)
                    replace HB := hide ((unhide HB).step hb)
                    replace HS := hide ((unhide HS).below hb)
                    replace HKU := hide ((unhide HKU).trans (kept_of_below hb))
                    clear hb
                    go_wp2
                    go_roundg (n - (b + 1))
                    case measure => omega
                    case rel => exact ⟨b + 1, by omega, rfl, by go_num, HN, HW, HB, HS, HKU⟩
                  · have ez : ((ra : Int) == 0) = false := by simp; omega
                    by_cases hf : (rb : Int) = H
                    · have efu : ((rb : Int) == H) = true := by simpa using hf
                      have HN := hide (unhide HNX (unhide HFG1 (Or.inr (Or.inr hf))))
                      have HF := hide hf
                      clear hf
                      have gt0 := fun x' : Gr wr => gr_cell ((unhide HB).cell (i := 0) rfl) x'
                      have gt1 := fun x' : Gr wr => gr_cell ((unhide HB).cell (i := 1) rfl) x'
                      have gt2 := fun x' : Gr wr => gr_cell (hra) x'
                      have gt3 := fun x' : Gr wr => gr_cell (hrb) x'
                      have gsome := gr_some wr
                      refine wp_region_grown (by kernel_rfl) (by kernel_rfl) ?_
                      repeat (go_big_quiet_step (fail))
                      refine wpQuiet_nil ?_
                      intro wz hw1
                      obtain ⟨z', hz⟩ := hw1
                      have hb : Below wr.heap.size wr wz := hz ▸ z'.ok
                      clear hz z' gsome gt0 gt1 gt2 gt3
                      replace HW := hide (Below.step (unhide HW) hb)
                      replace HB := hide ((unhide HB).step hb)
                      replace HS := hide ((unhide HS).below hb)
                      replace HKU := hide ((unhide HKU).trans (kept_of_below hb))
                      clear hb
                      go_wp2
                      go_roundg (n - (b + 1))
                      case measure => omega
                      case rel => exact ⟨b + 1, by omega, rfl, by go_num, HN, HW, HB, HS, HKU⟩
                    · have efu : ((rb : Int) == H) = false := by simpa using hf
                      have hlt : (rb : Int) < H := by omega
                      have HFV := hide (unhide HFC1 hab (by omega) hlt)
                      have gt0 := fun x' : Gr wr => gr_cell ((unhide HB).cell (i := 0) rfl) x'
                      have gt1 := fun x' : Gr wr => gr_cell ((unhide HB).cell (i := 1) rfl) x'
                      have gt2 := fun x' : Gr wr => gr_cell (hra) x'
                      have gt3 := fun x' : Gr wr => gr_cell (hrb) x'
                      have gsome := gr_some wr
                      refine wp_region_grown (by kernel_rfl) (by kernel_rfl) ?_
                      repeat (go_big_quiet_step (fail))
                      refine wpQuiet_nil ?_
                      intro wz hw1
                      obtain ⟨z', hz⟩ := hw1
                      have hb : Below wr.heap.size wr wz := hz ▸ z'.ok
                      clear hz z' gsome gt0 gt1 gt2 gt3
                      replace HW := hide (Below.step (unhide HW) hb)
                      replace HB := hide ((unhide HB).step hb)
                      replace HS := hide ((unhide HS).below hb)
                      replace HKU := hide ((unhide HKU).trans (kept_of_below hb))
                      clear hb
                      clear hra hrb
                      have hYS := shift_ok (unhide HY1) haR hbR hab (by rw [unhide ERA]; omega) (by rw [unhide ERB]; exact hlt)
                      have hSS := (unhide HS1).shift haR hbR hab (by rw [unhide ERA]; omega)
                      have HYS := hide hYS
                      have HSS := hide hSS
                      have h6l := (unhide HY1).h2
                      have HCP := hide (l18Copy_any H (.slice (some ⟨go, 0, none⟩) n c1) R1 wz (by have hr := (unhide HS).rows (cap := c1) (by rw [unhide HR1]; exact hc1) (by unfold maxLen; omega); rw [unhide HR1] at hr; exact hr) (by rw [unhide HR1]; omega) (fun s hs => by have := (unhide HY1).low s hs; omega))
                      unfold yardV at HCP
                      have b0 := (unhide HB).cell (i := 0) rfl
                      have b1 := (unhide HB).cell (i := 1) rfl
                      clear hYS hSS
                      go_wp2_with fail
                      refine (unhide HCP).mono ?_
                      intro e w5 hcp
                      obtain ⟨g5, A5, C5, c5, rfl, h51, h52, hS5, hb⟩ := cpA_syK hcp (by rw [unhide HR1]; omega)
                      rw [unhide HR1] at h51 ⊢
                      have hwz := (unhide HW).size
                      have hgz := (unhide HB).lt
                      have HS0 := hide (unhide HS).old
                      have HSL := hide fun (V : World) (hk : Kept (fun k => wz.heap.size ≤ k) wz V) => ((unhide HS0).kept hk (fun k hk' e => by omega)).mono (fun k hk' => hk'.1)
                      have HKZ := hide (unhide HKU)
                      have HKW : Hid (Kept (fun k => wz.heap.size ≤ k) wz w5) := kept_of_below hb
                      have HBZ := hide (unhide HB)
                      have HWZ := hide (unhide HW)
                      have HS5 := hide hS5
                      clear hcp hS5 hb b0 b1 HCP HS HKU HB HW HS0
                      unfold yardV
                      unfold maxLen at h52
                      go_upto_region 16 with (fail)
                      obtain ⟨gn, egn⟩ : ∃ z, z = w5.heap.size := ⟨_, rfl⟩
                      obtain ⟨W6, eW⟩ : ∃ z, z = w5.alloc (.cells #[.int .i64 H, .slice (some ⟨g5, 0, none⟩) n c5] 26) := ⟨_, rfl⟩
                      have hb : Below w5.heap.size w5 W6 := by rw [eW]; exact Below.alloc1 _ _
                      have HM : Hid (OwnV W6 gn [.int .i64 H, .slice (some ⟨g5, 0, none⟩) n c5]) := by rw [eW, egn]; exact ownV_alloc _ _ _
                      have HS6 := hide ((unhide HS5).under6 (w' := W6) hb)
                      rw [← egn] at HS6
                      rw [← eW, ← egn]
                      have hgn : wz.heap.size ≤ gn := by rw [egn]; exact (unhide HKW).size
                      replace HKW := hide ((unhide HKW).trans (kept_of_below hb))
                      clear hb eW egn HS5
                      have HQ := hide (l18Shift_any (fun k => wz.heap.size ≤ k ∧ k ≠ gn) H g5 c5 A5 C5 R1 a b W6 (unhide HS6) (fun k hk => ⟨by have := (unhide HM).lt; omega, by have := (unhide HM).lt; omega⟩) (by rw [unhide HR1]; exact h51) (by unfold maxLen; omega) haR hbR hab (by rw [unhide ERA]; omega) (by rw [unhide ERA]; omega) (by rw [unhide ERB]; omega))
                      rw [unhide HR1] at HQ
                      unfold yardV at HQ
                      have m0 := (unhide HM).cell (i := 0) rfl
                      have m1 := (unhide HM).cell (i := 1) rfl
                      go_wp2_with fail
                      refine (unhide HQ).mono ?_
                      rintro e w7 ⟨rfl, A7, C7, hS7, hk⟩
                      replace HM := hide ((unhide HM).kept hk (fun e => e.2 rfl))
                      replace HKW := hide ((unhide HKW).trans (hk.mono (fun k _ e => e.1)))
                      have HS7 := hide hS7
                      clear hk hS7 HQ m0 m1 HS6
                      have HS := hide (unhide HSL _ (unhide HKW))
                      have HKU := hide ((unhide HKZ).trans ((unhide HKW).mono (fun k _ e => unhide HUG k (Nat.le_trans hgw (Nat.le_trans (unhide HKZ).size e)))))
                      have HB := hide ((unhide HBZ).kept (unhide HKW) (fun e => by omega))
                      have hWB := unhide HWZ
                      have HW := hide (below_keptJ hWB (unhide HKW) hWB.size (fun k e => by omega))
                      clear HSL HKZ HBZ HWZ HKW hWB
                      have hrw : RowsIn w7 (.slice (some ⟨g5, 0, none⟩) n c5) (shiftY R1 a b) := by
                        have hr := (unhide HS7).rows (cap := c5) (by rw [shift_len, unhide HR1]; exact h51) (by unfold maxLen; omega)
                        rw [shift_len, unhide HR1] at hr
                        exact hr
                      have HIQ := hide (unhide IH (.slice (some ⟨g5, 0, none⟩) n c5) (shiftY R1 a b) k1 oa1 om1 oc1 w7 hrw (unhide HYS) (unhide HSS) (unhide HOI _ (unhide HKU)) (by omega))
                      unfold yardV at HIQ
                      have m0 := (unhide HM).cell (i := 0) rfl
                      have m1 := (unhide HM).cell (i := 1) rfl
                      clear hrw
                      cases hr : canP H O.length m (pilesOf O (shiftY R1 a b)) k1 with
                      | true =>
                        rw [hr] at HIQ HFV
                        clear hr
                        have HT := hide ((unhide HEV).trans (anyAB_true han hbn (unhide HFV)))
                        go_wp2_with fail
                        refine (unhide HIQ).mono ?_
                        rintro e w9 ⟨rfl, hb⟩
                        replace HW := hide (Below.step (unhide HW) hb)
                        clear hb m0 m1
                        go_wp2
                        go_ret
                        exact ⟨by rw [unhide HT]; rfl, unhide HW⟩
                      | false =>
                        rw [hr] at HIQ HFV
                        clear hr
                        have HN := hide (unhide HNX (unhide HFV))
                        go_wp2_with fail
                        refine (unhide HIQ).mono ?_
                        rintro e w9 ⟨rfl, hb⟩
                        replace HW := hide (Below.step (unhide HW) hb)
                        replace HB := hide ((unhide HB).step hb)
                        replace HS := hide ((unhide HS).below hb)
                        replace HKU := hide ((unhide HKU).trans (kept_of_below hb))
                        clear hb m0 m1
                        go_wp2
                        go_roundg (n - (b + 1))
                        case measure => omega
                        case rel => exact ⟨b + 1, by omega, rfl, by go_num, HN, HW, HB, HS, HKU⟩
              · have hbb : b = n := by omega
                subst hbb
                have HN : Hid (∀ a', a' < a + 1 → ∀ b', b' < b → f a' b' = false) := fun a' ha' b' hb' => by
                  by_cases e : a' = a
                  · subst e; exact unhide HFB b' hb'
                  · exact unhide HFA a' (by omega) b' hb'
                go_wp2
                go_roundg (b - (a + 1))
                case measure => omega
                case rel => exact ⟨a + 1, by omega, rfl, by go_num, HN, HW, HB, HS, HKU⟩
          · have haa : a = n := by omega
            have HT := hide ((unhide HEV).trans (anyAB_false (fun a' ha' b' hb' => unhide HFA a' (by omega) b' hb')))
            have dai : decide ((a : Int) < (n : Int)) = false := by simp; omega
            have dan : ¬ ((a : Int) < (n : Int)) := by omega
            have HAA := hide haa
            clear haa
            go_wp2
            go_ret
            exact ⟨by rw [unhide HT]; rfl, unhide HW⟩

end Go.Proofs.Ytdiifkeebgdfkaa

namespace Go.Proofs.Ytdiifkeebgdfkaa
open Go.RowKit

/-- What is asked of a small yard and its order, but for the yard's being right. -/
structure SmR (R : List (List Int)) (O : List Int) : Prop where
  three : R.length ≤ 3
  seven : R.flatten.length ≤ 7
  ol : O.length ≤ 7
  inn : ∀ x, x ∈ O → x ∈ R.flatten
  nod : O.Nodup
noncomputable instance (R : List (List Int)) (O : List Int) : Decidable (SmR R O) := Classical.propDecidable _
noncomputable def smB (R : List (List Int)) (O : List Int) : Bool := decide (SmR R O)
theorem smB_no {R : List (List Int)} {O : List Int} (h : ¬ SmR R O) : smB R O = false := decide_eq_false h
theorem smB_yes {R : List (List Int)} {O : List Int} (h : SmR R O) : smB R O = true := decide_eq_true h

set_option maxRecDepth 10000 in
set_option maxHeartbeats 3200000 in
theorem isSmallYard_any (H : Int) (v : Value) (R : List (List Int)) (oo : Option Addr) (ocap : Nat) (O : List Int) (w : World) (h : RowsIn w v R) (hO : IntsIn w (.slice oo O.length ocap) O) (hy : YOk H R) :
    Calls Try.prog 59 #[yardV H v, .slice oo O.length ocap] w fun e w' => e = .returned (.bool (smB R O)) ∧ Below w.heap.size w w' := by
  obtain ⟨A, eA⟩ : ∃ A, A = smB R O := ⟨_, rfl⟩
  rw [← eA]
  have EA := hide eA
  clear eA
  have hn2 := hy.n2
  obtain ⟨_, hoc, hom⟩ := hO.len
  unfold maxLen at hom
  have HVO := hide hO
  obtain ⟨ao, cap, rfl, hc1, hc2⟩ := rows_cap h
  have HBX := hide fun W (hb : Below w.heap.size w W) => boxesIn_any H (.slice ao R.length cap) R W (h.below hb) hn2 (fun s hs => by have := hy.low s hs; have := hy.h2; omega)
  clear h hO hy
  unfold yardV at HBX ⊢
  go_enter Try.func59, Try.ntmps59
  go_upto_region 1 with (fail)
  obtain ⟨g0, eg0⟩ : ∃ z, z = w.heap.size := ⟨_, rfl⟩
  obtain ⟨W, eW⟩ : ∃ z, z = w.alloc (.cells #[.int .i64 H, .slice ao R.length cap] 26) := ⟨_, rfl⟩
  have HW : Hid (Below w.heap.size w W) := by rw [eW]; exact Below.alloc1 _ _
  have HB : Hid (OwnV W g0 [.int .i64 H, .slice ao R.length cap]) := by rw [eW, eg0]; exact ownV_alloc _ _ _
  rw [← eW, ← eg0]
  clear eW eg0
  have b0 := (unhide HB).cell (i := 0) rfl
  have b1 := (unhide HB).cell (i := 1) rfl
  go_wp2_with fail
  refine (unhide HBX _ (unhide HW)).mono ?_
  rintro e w1 ⟨xo, m, xc, rfl, hin, hm72, hb⟩
  obtain ⟨hfl, hx1, hx2⟩ := hin.len
  unfold maxLen at hx2
  have HIN := hide hin
  have HFL := hide hfl
  replace HW := hide (Below.step (unhide HW) hb)
  replace HB := hide ((unhide HB).step hb)
  have HW1 : Hid (Below w1.heap.size w1 w1) := Below.refl _ _
  clear hb hin hfl b0 b1 HBX
  have b1 := (unhide HB).cell (i := 1) rfl
  by_cases h3 : R.length ≤ 3
  · have e3 : decide ((3 : Int) < (R.length : Int)) = false := by simp; omega
    have n3 : ¬ ((3 : Int) < (R.length : Int)) := by omega
    by_cases h7 : m ≤ 7
    · have e7 : decide ((7 : Int) < (m : Int)) = false := by simp; omega
      have n7 : ¬ ((7 : Int) < (m : Int)) := by omega
      by_cases h8 : O.length ≤ 7
      · have e8 : decide ((7 : Int) < (O.length : Int)) = false := by simp; omega
        have n8 : ¬ ((7 : Int) < (O.length : Int)) := by omega
        have HNO := hide fun (x : Int) (hx : x ∈ O) (hn : x ∉ R.flatten) => (unhide EA).trans (smB_no fun h => hn (h.inn x hx))
        have HND := hide fun (hn : ¬ O.Nodup) => (unhide EA).trans (smB_no fun h => hn h.nod)
        have HYE := hide fun (ha : ∀ i, i < O.length → O.getD i 0 ∈ R.flatten) (hn : O.Nodup) => (unhide EA).trans (smB_yes ⟨h3, by have := unhide HFL; omega, h8, fun x hx => by
          obtain ⟨i, hi, e⟩ := mem_at.1 hx
          exact e ▸ ha i hi, hn⟩)
        go_wp2
        clear b1 e3 n3 e7 n7 e8 n8
        go_loopg [26] O.length (fun gh iv wr => ∃ k : Nat, k ≤ O.length ∧ gh = O.length - k ∧ iv = .int .i64 k ∧ Hid (∀ i, i < k → O.getD i 0 ∈ R.flatten) ∧ Hid (Below w.heap.size w wr) ∧ Hid (Below w1.heap.size w1 wr))
        case atStart => exact ⟨0, Nat.zero_le _, rfl, rfl, fun i hi => absurd hi (Nat.not_lt_zero i), HW, HW1⟩
        case round =>
          clear HW HW1
          obtain ⟨k, hk, rfl, rfl, HX, HW, HW1⟩ := hrel
          by_cases hkn : k < O.length
          · have hki : (k : Int) < (O.length : Int) := by omega
            obtain ⟨ob, of, eo, hx⟩ := intAt ((unhide HVO).below (unhide HW)) hkn
            subst eo
            obtain ⟨y, ey⟩ : ∃ y, O.getD k 0 = y := ⟨_, rfl⟩
            have HYM : Hid (y ∈ O) := by show _ ∈ _; rw [← ey]; exact mem_at.2 ⟨k, hkn, rfl⟩
            have HNX : Hid (y ∈ R.flatten → ∀ i, i < k + 1 → O.getD i 0 ∈ R.flatten) := fun hm i hi => by
              by_cases e : i = k
              · rw [e, ey]; exact hm
              · exact unhide HX i (by omega)
            rw [ey] at hx
            clear ey
            have HCT := hide (slContains_any (.slice xo m xc) R.flatten y wr ((unhide HIN).below (unhide HW1)))
            by_cases hym : y ∈ R.flatten
            · have ed : decide (y ∈ R.flatten) = true := decide_eq_true hym
              rw [ed] at HCT
              have HN := hide (unhide HNX hym)
              clear hym ed
              go_wp2_with fail
              refine (unhide HCT).mono ?_
              rintro e w9 ⟨rfl, rfl⟩
              clear hx
              go_wp2
              go_roundg (O.length - (k + 1))
              case measure => omega
              case rel => exact ⟨k + 1, by omega, rfl, by go_num, HN, HW, HW1⟩
            · have ed : decide (y ∈ R.flatten) = false := decide_eq_false hym
              rw [ed] at HCT
              have HEV := hide (unhide HNO y (unhide HYM) hym)
              clear hym ed
              go_wp2_with fail
              refine (unhide HCT).mono ?_
              rintro e w9 ⟨rfl, rfl⟩
              clear hx
              go_wp2
              go_ret
              exact ⟨by rw [unhide HEV]; rfl, unhide HW⟩
          · have hkk : k = O.length := by omega
            have HXA : Hid (∀ i, i < O.length → O.getD i 0 ∈ R.flatten) := by have h1 := unhide HX; rw [hkk] at h1; exact h1
            have HTW := hide (hasTwice_any oo O.length ocap O wr ((unhide HVO).below (unhide HW)) (by omega))
            clear hkk
            by_cases hnd : O.Nodup
            · have ed : (!decide O.Nodup) = false := by simp [hnd]
              rw [ed] at HTW
              have HEV := hide (unhide HYE (unhide HXA) hnd)
              clear hnd ed
              go_wp2_with fail
              refine (unhide HTW).mono ?_
              rintro e w9 ⟨rfl, hb⟩
              replace HW := hide (Below.step (unhide HW) hb)
              clear hb
              go_wp2
              go_ret
              exact ⟨by rw [unhide HEV]; rfl, unhide HW⟩
            · have ed : (!decide O.Nodup) = true := by simp [hnd]
              rw [ed] at HTW
              have HEV := hide (unhide HND hnd)
              clear hnd ed
              go_wp2_with fail
              refine (unhide HTW).mono ?_
              rintro e w9 ⟨rfl, hb⟩
              replace HW := hide (Below.step (unhide HW) hb)
              clear hb
              go_wp2
              go_ret
              exact ⟨by rw [unhide HEV]; rfl, unhide HW⟩
      · have e8 : decide ((7 : Int) < (O.length : Int)) = true := by simp; omega
        have n8 : ((7 : Int) < (O.length : Int)) := by omega
        have HEV := hide ((unhide EA).trans (smB_no fun h => h8 h.ol))
        go_wp2
        go_ret
        exact ⟨by rw [unhide HEV]; rfl, unhide HW⟩
    · have e7 : decide ((7 : Int) < (m : Int)) = true := by simp; omega
      have n7 : ((7 : Int) < (m : Int)) := by omega
      have HEV := hide ((unhide EA).trans (smB_no fun h => h7 (by have h1 := h.seven; have := unhide HFL; omega)))
      go_wp2
      go_ret
      exact ⟨by rw [unhide HEV]; rfl, unhide HW⟩
  · have e3 : decide ((3 : Int) < (R.length : Int)) = true := by simp; omega
    have n3 : ((3 : Int) < (R.length : Int)) := by omega
    have HEV := hide ((unhide EA).trans (smB_no fun h => h3 h.three))
    go_wp2
    go_ret
    exact ⟨by rw [unhide HEV]; rfl, unhide HW⟩

noncomputable def lstA (H : Int) (R : List (List Int)) (O : List Int) (m : Int) : Value := .tuple #[.int .i64 (leastV H R O m).1, .bool (leastV H R O m).2]
theorem lstA_bad {H : Int} {R : List (List Int)} {O : List Int} {m : Int} (h : ¬ SmY H R O m) : lstA H R O m = .tuple #[.int .i64 (-1), .bool false] := by rw [lstA, least_bad h]
theorem lstA_none {H : Int} {R : List (List Int)} {O : List Int} {m : Int} (h : ∀ n : Nat, (n : Int) ≤ m → canP H O.length n (pilesOf O R) 0 = false) : lstA H R O m = .tuple #[.int .i64 (-1), .bool false] := by rw [lstA, least_none h]
theorem lstA_some {H : Int} {R : List (List Int)} {O : List Int} {m : Int} {n : Nat} (h : SmY H R O m) (h1 : (n : Int) ≤ m) (h2 : canP H O.length n (pilesOf O R) 0 = true) (h3 : ∀ j, j < n → canP H O.length j (pilesOf O R) 0 = false) : lstA H R O m = .tuple #[.int .i64 (n : Int), .bool true] := by rw [lstA, least_some h h1 h2 h3]

set_option maxRecDepth 10000 in
set_option maxHeartbeats 8000000 in
theorem implLeastShuffles_a (H : Int) (v : Value) (R : List (List Int)) (ov : Value) (O : List Int) (most : Int) (w : World) (h : RowsIn w v R) (hO : IntsIn w ov O) :
    Calls Try.prog 19 #[yardV H v, ov, .int .i64 most] w fun e w' => e = .returned (lstA H R O most) ∧ Below w.heap.size w w' := by
  obtain ⟨A, eA⟩ : ∃ A, A = lstA H R O most := ⟨_, rfl⟩
  rw [← eA]
  have EA := hide eA
  clear eA
  have HVO := hide hO
  obtain ⟨oo, ocap, rfl, hol, hom, -⟩ := hO
  unfold maxLen at hom
  have HV := hide h
  obtain ⟨ao, cap, rfl, hc1, hc2⟩ := rows_cap h
  clear h
  have HYK := hide fun W (hb : Below w.heap.size w W) => implYardOk_any H (.slice ao R.length cap) R W ((unhide HV).below hb)
  have HYT : Hid (yardB H R = true → YOk H R) := fun h => of_decide_eq_true h
  have HYF : Hid (yardB H R = false → ¬ YOk H R) := fun h => of_decide_eq_false h
  generalize yardB H R = r at HYK HYT HYF
  unfold yardV at HYK ⊢
  go_enter Try.func19, Try.ntmps19
  go_upto_region 1 with (fail)
  obtain ⟨g0, eg0⟩ : ∃ z, z = w.heap.size := ⟨_, rfl⟩
  obtain ⟨W, eW⟩ : ∃ z, z = w.alloc (.cells #[.int .i64 H, .slice ao R.length cap] 26) := ⟨_, rfl⟩
  have HW : Hid (Below w.heap.size w W) := by rw [eW]; exact Below.alloc1 _ _
  have HB : Hid (OwnV W g0 [.int .i64 H, .slice ao R.length cap]) := by rw [eW, eg0]; exact ownV_alloc _ _ _
  rw [← eW, ← eg0]
  clear eW eg0
  have b0 := (unhide HB).cell (i := 0) rfl
  have b1 := (unhide HB).cell (i := 1) rfl
  go_wp2_with fail
  refine (unhide HYK _ (unhide HW)).mono ?_
  rintro e w1 ⟨rfl, hb⟩
  replace HW := hide (Below.step (unhide HW) hb)
  replace HB := hide ((unhide HB).step hb)
  clear hb b0 b1
  clear HYK
  cases r with
  | false =>
    have HEV := hide ((unhide EA).trans (lstA_bad fun h => unhide HYF (by first | rfl | trivial) h.ok))
    go_wp2
    go_ret2
    exact ⟨by rw [unhide HEV]; rfl, unhide HW⟩
  | true =>
    have hy := unhide HYT (by first | rfl | trivial)
    have HY := hide hy
    have hn1 := hy.n1
    have hn2 := hy.n2
    have hH2 := hy.h2
    clear hy HYT HYF
    have HSM := hide (isSmallYard_any H (.slice ao R.length cap) R oo ocap O w1 ((unhide HV).below (unhide HW)) ((unhide HVO).below (unhide HW)) (unhide HY))
    unfold yardV at HSM
    have HST : Hid (smB R O = true → SmR R O) := fun h => of_decide_eq_true h
    have HSF : Hid (smB R O = false → ¬ SmR R O) := fun h => of_decide_eq_false h
    generalize smB R O = sb at HSM HST HSF
    cases sb with
    | false =>
      have HEV := hide ((unhide EA).trans (lstA_bad fun h => unhide HSF (by first | rfl | trivial) ⟨h.three, h.seven, h.ol, h.inn, h.nod⟩))
      have b0 := (unhide HB).cell (i := 0) rfl
      have b1 := (unhide HB).cell (i := 1) rfl
      go_wp2_with fail
      refine (unhide HSM).mono ?_
      rintro e w2 ⟨rfl, hb⟩
      replace HW := hide (Below.step (unhide HW) hb)
      replace HB := hide ((unhide HB).step hb)
      clear hb b0 b1
      go_wp2
      go_ret2
      exact ⟨by rw [unhide HEV]; rfl, unhide HW⟩
    | true =>
      have HS := hide (unhide HST (by first | rfl | trivial))
      clear HST HSF
      have b0 := (unhide HB).cell (i := 0) rfl
      have b1 := (unhide HB).cell (i := 1) rfl
      go_wp2_with fail
      refine (unhide HSM).mono ?_
      rintro e w2 ⟨rfl, hb⟩
      replace HW := hide (Below.step (unhide HW) hb)
      replace HB := hide ((unhide HB).step hb)
      clear hb b0 b1
      clear HSM
      have HWI := hide fun W => within_any most 0 8 W
      by_cases hmo : 0 ≤ most ∧ most ≤ 8
      · obtain ⟨hm0, hm8⟩ := hmo
        have ewi : inB most 0 8 = true := inB_mk hm0 hm8
        rw [ewi] at HWI
        clear ewi
        have HSY : Hid (SmY H R O most) := ⟨unhide HY, (unhide HS).three, (unhide HS).seven, (unhide HS).ol, (unhide HS).nod, (unhide HS).inn, hm0, hm8⟩
        have hO7 := (unhide HS).ol
        have hR3 := (unhide HS).three
        go_wp2_with fail
        refine (unhide HWI _).mono ?_
        rintro e w3 ⟨rfl, rfl⟩
        clear HWI
        have HTG := hide (turnGround_any H (.slice ao R.length cap) R (.slice oo O.length ocap) O w3 ((unhide HV).below (unhide HW)) ((unhide HVO).below (unhide HW)) (unhide HY))
        rw [pilF_turns] at HTG
        unfold yardV gndV at HTG
        have b0 := (unhide HB).cell (i := 0) rfl
        have b1 := (unhide HB).cell (i := 1) rfl
        go_wp2_with fail
        refine (unhide HTG).mono ?_
        rintro e w4 ⟨gp, Z, rfl, hgp, hG, hb⟩
        replace HW := hide (Below.step (unhide HW) hb)
        replace HB := hide ((unhide HB).step hb)
        clear hb b0 b1
        have HG := hide hG
        clear hG HTG
        have hPl := piles_len O R
        have HLP : Hid (∀ s, s < (pilesOf O R).length → (((pilesOf O R).getD s []).length : Int) ≤ H) := fun s hs => by
          rw [piles_len] at hs
          rw [piles_get O hs, turns_len]
          exact (unhide HY).low s hs
        have HL6 : Hid (∀ s, s < (pilesOf O R).length → ((pilesOf O R).getD s []).length ≤ 6) := fun s hs => by have := unhide HLP s hs; omega
        have HBK := hide fun W (hG : Gnd W gp Z (pilesOf O R)) => blockers_any H gp R.length Z (pilesOf O R) W hG (by omega) (by omega) (by unfold maxLen; omega) (unhide HL6)
        have HOW := hide fun W (hG : Gnd W gp Z (pilesOf O R)) => ownT_any H gp R.length Z (pilesOf O R) W hG (by omega) (by omega)
        have HCG := hide fun (m g : Nat) W (hG : Gnd W g Z (pilesOf O R)) (hm : m ≤ 8) => canGo_any H O.length hH2 hO7 m g 0 Z (pilesOf O R) W hG (by omega) (unhide HLP) (Nat.zero_le _) hm
        have hBl := blk_le (P := pilesOf O R) (by omega) (unhide HL6)
        have HLOW := hide fun (j : Nat) (hj : j < blkP (pilesOf O R)) => can_low (H := H) (unhide HSY).st hj
        have HLN := hide fun hn => (unhide EA).trans (lstA_none (H := H) (R := R) (O := O) (m := most) hn)
        have HLS := hide fun (n : Nat) h1 h2 h3 => (unhide EA).trans (lstA_some (n := n) (unhide HSY) h1 h2 h3)
        rw [hPl] at HBK HOW HCG
        obtain ⟨cc, ecc⟩ : ∃ cc : Nat → Bool, cc = fun n => canP H O.length n (pilesOf O R) 0 := ⟨_, rfl⟩
        have ecc2 : ∀ n, canP H O.length n (pilesOf O R) 0 = cc n := fun n => by rw [ecc]
        simp only [ecc2] at HCG HLOW HLN HLS
        obtain ⟨B, eB⟩ : ∃ B, B = blkP (pilesOf O R) := ⟨_, rfl⟩
        rw [← eB] at HBK hBl HLOW
        unfold gndV at HBK HOW HCG
        have HPL := hide hPl
        clear ecc ecc2 eB hPl
        go_upto_region 4 with (fail)
        obtain ⟨gb, egb⟩ : ∃ z, z = w4.heap.size := ⟨_, rfl⟩
        obtain ⟨W5, eW⟩ : ∃ z, z = w4.alloc (.cells #[.int .i64 H, .slice (some ⟨gp, 0, none⟩) R.length R.length] 90) := ⟨_, rfl⟩
        have hb : Below w4.heap.size w4 W5 := by rw [eW]; exact Below.alloc1 _ _
        have HC : Hid (OwnV W5 gb [.int .i64 H, .slice (some ⟨gp, 0, none⟩) R.length R.length]) := by rw [eW, egb]; exact ownV_alloc _ _ _
        rw [← eW, ← egb]
        replace HW := hide (Below.step (unhide HW) hb)
        replace HG := hide ((unhide HG).below hb)
        clear hb eW egb HB
        have c0 := (unhide HC).cell (i := 0) rfl
        have c1 := (unhide HC).cell (i := 1) rfl
        go_wp2_with fail
        refine (unhide HBK _ (unhide HG)).mono ?_
        rintro e w6 ⟨rfl, hb⟩
        replace HW := hide (Below.step (unhide HW) hb)
        replace HG := hide ((unhide HG).below hb)
        replace HC := hide ((unhide HC).step hb)
        clear hb c0 c1 HBK
        go_wp2
        go_loopg [9] (82 - B) (fun gh mv wr => ∃ q : Nat, gh = 82 - q ∧ q ≤ 81 ∧ mv = .int .i64 (q : Int) ∧ Hid (∀ j, j < q → cc j = false) ∧ Hid (Below w.heap.size w wr) ∧ Hid (Gnd wr gp Z (pilesOf O R)) ∧ Hid (OwnV wr gb [.int .i64 H, .slice (some ⟨gp, 0, none⟩) R.length R.length]))
        case atStart => exact ⟨B, rfl, by omega, rfl, HLOW, HW, HG, HC⟩
        case round =>
          clear HW HG HC
          obtain ⟨q, rfl, hq, rfl, HJ, HW, HG, HC⟩ := hrel
          by_cases hqm : (q : Int) ≤ most
          · have eqm : decide ((q : Int) ≤ most) = true := by simpa using hqm
            have c0 := (unhide HC).cell (i := 0) rfl
            have c1 := (unhide HC).cell (i := 1) rfl
            go_wp2_with fail
            refine (unhide HOW _ (unhide HG)).mono ?_
            rintro e w7 ⟨g2, rfl, hg2, hG2, hb⟩
            have hsz := (unhide HW).size
            have hcl0 := (unhide HC).lt
            have hgl0 := (unhide HG).top.lt
            replace HW := hide (Below.step (unhide HW) hb)
            replace HG := hide ((unhide HG).below hb)
            replace HC := hide ((unhide HC).step hb)
            have hcl : gb < g2 := Nat.lt_of_lt_of_le hcl0 hg2
            have hgl : gp < g2 := Nat.lt_of_lt_of_le hgl0 hg2
            have HN := hide hG2
            clear hb hG2 c0 c1
            have HCQ := hide (unhide HCG q g2 w7 (unhide HN) (by omega))
            cases hr : cc q with
            | true =>
              rw [hr] at HCQ
              have HEV := hide (unhide HLS q hqm hr (unhide HJ))
              clear hr
              go_wp2_with fail
              refine (unhide HCQ).mono ?_
              rintro e w8 ⟨rfl, hk⟩
              have hWB := unhide HW
              replace HW := hide (below_kept hWB hk hWB.size (fun b e => by omega))
              clear hk hWB
              go_wp2
              go_ret2
              exact ⟨by rw [unhide HEV]; rfl, unhide HW⟩
            | false =>
              rw [hr] at HCQ
              have HJ2 : Hid (∀ j, j < q + 1 → cc j = false) := fun j hj => by
                by_cases e : j = q
                · rw [e]; exact hr
                · exact unhide HJ j (by omega)
              clear hr
              go_wp2_with fail
              refine (unhide HCQ).mono ?_
              rintro e w8 ⟨rfl, hk⟩
              have hWB := unhide HW
              replace HW := hide (below_kept hWB hk hWB.size (fun b e => by omega))
              replace HG := hide ((unhide HG).kept hk (by omega) ((unhide HN).noInt (by have := unhide HPL; omega)))
              replace HC := hide ((unhide HC).kept hk (by omega))
              clear hk hWB
              go_wp2
              go_roundg (82 - (q + 1))
              case measure => omega
              case rel => exact ⟨q + 1, rfl, by omega, by go_num, HJ2, HW, HG, HC⟩
          · have eqm : decide ((q : Int) ≤ most) = false := by simpa using hqm
            have HEV := hide (unhide HLN (fun n hn => unhide HJ n (by omega)))
            go_wp2
            go_ret2
            exact ⟨by rw [unhide HEV]; rfl, unhide HW⟩
      · have ewi : inB most 0 8 = false := inB_not (by omega)
        rw [ewi] at HWI
        have HEV := hide ((unhide EA).trans (lstA_bad fun h => hmo ⟨h.m0, h.m8⟩))
        clear ewi
        go_wp2_with fail
        refine (unhide HWI _).mono ?_
        rintro e w3 ⟨rfl, rfl⟩
        go_wp2
        go_ret2
        exact ⟨by rw [unhide HEV]; rfl, unhide HW⟩

theorem implLeastShuffles_any (H : Int) (v : Value) (R : List (List Int)) (ov : Value) (O : List Int) (m : Int) (w : World) (h : RowsIn w v R) (hO : IntsIn w ov O) :
    Calls Try.prog 19 #[yardV H v, ov, .int .i64 m] w fun e w' => e = .returned (.tuple #[.int .i64 (leastV H R O m).1, .bool (leastV H R O m).2]) ∧ Below w.heap.size w w' := implLeastShuffles_a H v R ov O m w h hO

end Go.Proofs.Ytdiifkeebgdfkaa

namespace Go.Proofs.Ytdiifkeebgdfkaa
open Go.RowKit

theorem flat_take {R : List (List Int)} {k : Nat} (h : k < R.length) : (R.take (k + 1)).flatten.length = (R.take k).flatten.length + (R.getD k []).length := by
  rw [List.take_add_one, List.flatten_append, List.length_append, getD_lt h, List.getElem?_eq_getElem h]
  simp
theorem flat_bdL {R : List (List Int)} (hl : ∀ s, s < R.length → (R.getD s []).length ≤ 6) : ∀ k, k ≤ R.length → (R.take k).flatten.length ≤ 6 * k
  | 0, _ => by simp
  | k + 1, h => by
    have h1 := flat_take (R := R) (k := k) (by omega)
    have h2 := flat_bdL hl k (by omega)
    have h3 := hl k (by omega)
    omega

set_option maxRecDepth 100000 in
set_option maxHeartbeats 16000000 in
theorem specLeastShuffles_a (H : Int) (v : Value) (R : List (List Int)) (ov : Value) (O : List Int) (most : Int) (w : World) (h : RowsIn w v R) (hO : IntsIn w ov O) :
    Calls Try.prog 20 #[yardV H v, ov, .int .i64 most] w fun e w' => e = .returned (lstA H R O most) ∧ Below w.heap.size w w' := by
  obtain ⟨A, eA⟩ : ∃ A, A = lstA H R O most := ⟨_, rfl⟩
  rw [← eA]
  have EA := hide eA
  clear eA
  have HVO := hide hO
  obtain ⟨oo, ocap, rfl, hol, hom, -⟩ := hO
  unfold maxLen at hom
  have HV := hide h
  obtain ⟨ao, cap, rfl, hc1, hc2⟩ := rows_cap h
  clear h
  have HYK := hide fun W (hb : Below w.heap.size w W) => specYardOk_any H (.slice ao R.length cap) R W ((unhide HV).below hb)
  unfold yardV at HYK ⊢
  by_cases hy : YOk H R
  case neg =>
    rw [show yardB H R = false from decide_eq_false hy] at HYK
    have HEV := hide ((unhide EA).trans (lstA_bad fun h => hy h.ok))
    clear hy
    go_enter Try.func20, Try.ntmps20
    go_upto_region 1 with (fail)
    obtain ⟨g0, eg0⟩ : ∃ z, z = w.heap.size := ⟨_, rfl⟩
    obtain ⟨W, eW⟩ : ∃ z, z = w.alloc (.cells #[.int .i64 H, .slice ao R.length cap] 26) := ⟨_, rfl⟩
    have HW : Hid (Below w.heap.size w W) := by rw [eW]; exact Below.alloc1 _ _
    have HB : Hid (OwnV W g0 [.int .i64 H, .slice ao R.length cap]) := by rw [eW, eg0]; exact ownV_alloc _ _ _
    rw [← eW, ← eg0]
    clear eW eg0
    go_wp2
    go_loopg [8, 9] R.length (fun gh nv iv wr => ∃ (k : Nat) (z : Int), k ≤ R.length ∧ gh = R.length - k ∧ iv = .int .i64 k ∧ nv = .int .i64 z ∧ Hid (Below w.heap.size w wr) ∧ Hid (OwnV wr g0 [.int .i64 H, .slice ao R.length cap]))
    case atStart => exact ⟨0, 0, Nat.zero_le _, rfl, rfl, rfl, HW, HB⟩
    case round =>
      clear HW HB
      obtain ⟨k, z, hk, rfl, rfl, rfl, HW, HB⟩ := hrel
      have b0 := (unhide HB).cell (i := 0) rfl
      have b1 := (unhide HB).cell (i := 1) rfl
      by_cases hkn : k < R.length
      · have hki : (k : Int) < (R.length : Int) := by omega
        obtain ⟨bb, ob, eao, hcl⟩ := rows_at (unhide HV) (by omega)
        subst eao
        obtain ⟨ar, m, cr, hcell, -, EM, hm1, hm2⟩ := hcl wr (unhide HW) k hkn
        unfold maxLen at hm2
        clear hcl
        go_wp2
        go_roundg (R.length - (k + 1))
        case measure => omega
        case rel => exact ⟨k + 1, _, by omega, rfl, by go_num, rfl, HW, HB⟩
      · have hkk : ¬ ((k : Int) < (R.length : Int)) := by omega
        go_wp2_with fail
        refine (unhide HYK _ (unhide HW)).mono ?_
        rintro e w1 ⟨rfl, hb⟩
        replace HW := hide (Below.step (unhide HW) hb)
        clear hb b0 b1
        go_wp2
        go_ret2
        exact ⟨by rw [unhide HEV]; rfl, unhide HW⟩
  case pos =>
    rw [show yardB H R = true from decide_eq_true hy] at HYK
    have hn2 := hy.n2
    have hH2 := hy.h2
    have HY := hide hy
    have HL6 : Hid (∀ s, s < R.length → (R.getD s []).length ≤ 6) := fun s hs => by have := hy.low s hs; omega
    have HFB := hide (flat_bdL (unhide HL6))
    have HFA : Hid ((R.take R.length).flatten.length = R.flatten.length) := by show _ = _; rw [List.take_length]
    have HOR := hide fun W (hb : Below w.heap.size w W) => l18Order_any (.slice oo O.length ocap) O 7 W ((unhide HVO).below hb)
    have HCN := hide fun (x : Int) W (hb : Below w.heap.size w W) => l18Count_any H x (.slice ao R.length cap) R W ((unhide HV).below hb) hn2 (unhide HL6)
    have HCA := hide fun (hO7 : O.length ≤ 7) (m : Nat) (hst : StO O R 0) (hm : m ≤ 8) W (hb : Below w.heap.size w W) => l18Can_any H O hO7 m (.slice ao R.length cap) R 0 oo O.length ocap W ((unhide HV).below hb) (unhide HY) hst (by rw [List.drop_zero]; exact (unhide HVO).below hb) hm
    unfold yardV at HCN HCA
    clear hy
    go_enter Try.func20, Try.ntmps20
    go_upto_region 1 with (fail)
    obtain ⟨g0, eg0⟩ : ∃ z, z = w.heap.size := ⟨_, rfl⟩
    obtain ⟨W, eW⟩ : ∃ z, z = w.alloc (.cells #[.int .i64 H, .slice ao R.length cap] 26) := ⟨_, rfl⟩
    have HW : Hid (Below w.heap.size w W) := by rw [eW]; exact Below.alloc1 _ _
    have HB : Hid (OwnV W g0 [.int .i64 H, .slice ao R.length cap]) := by rw [eW, eg0]; exact ownV_alloc _ _ _
    rw [← eW, ← eg0]
    clear eW eg0
    have HF0 : Hid ((R.take 0).flatten.length = 0) := by show _ = _; simp
    go_wp2
    go_loopg [8, 9] R.length (fun gh nv iv wr => ∃ k : Nat, k ≤ R.length ∧ gh = R.length - k ∧ iv = .int .i64 k ∧ nv = .int .i64 (((R.take k).flatten.length : Nat) : Int) ∧ Hid (Below w.heap.size w wr) ∧ Hid (OwnV wr g0 [.int .i64 H, .slice ao R.length cap]))
    case atStart => exact ⟨0, Nat.zero_le _, rfl, rfl, by rw [unhide HF0]; rfl, HW, HB⟩
    case round =>
      clear HW HB
      obtain ⟨k, hk, rfl, rfl, rfl, HW, HB⟩ := hrel
      have b0 := (unhide HB).cell (i := 0) rfl
      have b1 := (unhide HB).cell (i := 1) rfl
      by_cases hkn : k < R.length
      · have hki : (k : Int) < (R.length : Int) := by omega
        obtain ⟨bb, ob, eao, hcl⟩ := rows_at (unhide HV) (by omega)
        subst eao
        obtain ⟨ar, m, cr, hcell, -, EM, hm1, hm2⟩ := hcl wr (unhide HW) k hkn
        unfold maxLen at hm2
        have hm6 := unhide HL6 k hkn
        have hfb := unhide HFB k hk
        have HFS : Hid ((R.take (k + 1)).flatten.length = (R.take k).flatten.length + m) := by show _ = _; rw [flat_take hkn, unhide EM]
        rw [unhide EM] at hm6
        generalize (R.take k).flatten.length = fl at *
        clear hcl
        go_wp2
        go_roundg (R.length - (k + 1))
        case measure => omega
        case rel => exact ⟨k + 1, by omega, rfl, by go_num, by rw [unhide HFS]; go_num, HW, HB⟩
      · have hkk : k = R.length := by omega
        subst hkk
        have hfb := unhide HFB R.length (Nat.le_refl _)
        rw [unhide HFA] at hfb ⊢
        obtain ⟨fl, efl⟩ : ∃ z, z = R.flatten.length := ⟨_, rfl⟩
        rw [← efl] at hfb ⊢
        have EFL := hide efl
        clear efl
        have hnl : ¬ ((R.length : Int) < (R.length : Int)) := by omega
        go_wp2_with fail
        refine (unhide HYK _ (unhide HW)).mono ?_
        rintro e w1 ⟨rfl, hb⟩
        replace HW := hide (Below.step (unhide HW) hb)
        replace HB := hide ((unhide HB).step hb)
        clear hb b0 b1 HYK
        have b0 := (unhide HB).cell (i := 0) rfl
        have b1 := (unhide HB).cell (i := 1) rfl
        by_cases h3 : R.length ≤ 3
        case neg =>
          have e3 : decide ((3 : Int) < (R.length : Int)) = true := decide_eq_true (by omega)
          have n3 : ((3 : Int) < (R.length : Int)) := by omega
          have HEV := hide ((unhide EA).trans (lstA_bad fun h => h3 h.three))
          go_wp2
          go_ret2
          exact ⟨by rw [unhide HEV]; rfl, unhide HW⟩
        have e3 : decide ((3 : Int) < (R.length : Int)) = false := decide_eq_false (by omega)
        have n3 : ¬ ((3 : Int) < (R.length : Int)) := by omega
        by_cases h7 : fl ≤ 7
        case neg =>
          have e7 : decide ((7 : Int) < (fl : Int)) = true := decide_eq_true (by omega)
          have n7 : ((7 : Int) < (fl : Int)) := by omega
          have HEV := hide ((unhide EA).trans (lstA_bad fun h => h7 (by have h1 := h.seven; have := unhide EFL; omega)))
          go_wp2
          go_ret2
          exact ⟨by rw [unhide HEV]; rfl, unhide HW⟩
        have e7 : decide ((7 : Int) < (fl : Int)) = false := decide_eq_false (by omega)
        have n7 : ¬ ((7 : Int) < (fl : Int)) := by omega
        have HOT : Hid (ordB O 7 = true → O.Nodup ∧ O.length ≤ 7) := fun h => by
          rw [ordB, Bool.and_eq_true] at h
          have h1 := of_decide_eq_true h.1
          have h2 := of_decide_eq_true h.2
          exact ⟨h1, by omega⟩
        have HOF : Hid (ordB O 7 = false → ¬ (O.Nodup ∧ O.length ≤ 7)) := fun h hx => by
          have h1 : ordB O 7 = true := by rw [ordB, decide_eq_true hx.1, decide_eq_true (by omega)]; rfl
          rw [h1] at h
          cases h
        generalize ordB O 7 = ob7 at HOR HOT HOF
        go_wp2_with fail
        refine (unhide HOR _ (unhide HW)).mono ?_
        rintro e w2 ⟨rfl, rfl⟩
        clear HOR
        cases ob7 with
        | false =>
          have HEV := hide ((unhide EA).trans (lstA_bad fun h => unhide HOF (by first | rfl | trivial) ⟨h.nod, h.ol⟩))
          go_wp2
          go_ret2
          exact ⟨by rw [unhide HEV]; rfl, unhide HW⟩
        | true =>
          obtain ⟨hnd, hO7⟩ := unhide HOT (by first | rfl | trivial)
          have HND := hide hnd
          clear HOT HOF hnd
          have HWI := hide fun W => l1In_any most 0 8 W
          by_cases hmo : 0 ≤ most ∧ most ≤ 8
          case neg =>
            have ewi : inB most 0 8 = false := inB_not (by omega)
            rw [ewi] at HWI
            have HEV := hide ((unhide EA).trans (lstA_bad fun h => hmo ⟨h.m0, h.m8⟩))
            clear ewi
            go_wp2_with fail
            refine (unhide HWI _).mono ?_
            rintro e w3 ⟨rfl, rfl⟩
            go_wp2
            go_ret2
            exact ⟨by rw [unhide HEV]; rfl, unhide HW⟩
          obtain ⟨hm0, hm8⟩ := hmo
          have ewi : inB most 0 8 = true := inB_mk hm0 hm8
          rw [ewi] at HWI
          clear ewi
          have HNO := hide fun (x : Int) (hx : x ∈ O) (hn : x ∉ R.flatten) => (unhide EA).trans (lstA_bad (H := H) (R := R) (O := O) (m := most) fun h => hn (h.inn x hx))
          have HSM := hide fun (ha : ∀ i, i < O.length → O.getD i 0 ∈ R.flatten) => (⟨unhide HY, h3, by have := unhide EFL; omega, hO7, unhide HND, fun x hx => by
            obtain ⟨i, hi, e⟩ := mem_at.1 hx
            exact e ▸ ha i hi, hm0, hm8⟩ : SmY H R O most)
          go_wp2_with fail
          refine (unhide HWI _).mono ?_
          rintro e w3 ⟨rfl, rfl⟩
          clear HWI b0 b1 e3 n3 e7 n7
          go_wp2
          go_loopg [10] O.length (fun gh iv wr => ∃ k : Nat, k ≤ O.length ∧ gh = O.length - k ∧ iv = .int .i64 k ∧ Hid (∀ i, i < k → O.getD i 0 ∈ R.flatten) ∧ Hid (Below w.heap.size w wr) ∧ Hid (OwnV wr g0 [.int .i64 H, .slice ao R.length cap]))
          case atStart => exact ⟨0, Nat.zero_le _, rfl, rfl, fun i hi => absurd hi (Nat.not_lt_zero i), HW, HB⟩
          case round =>
            clear HW HB
            obtain ⟨k, hk, rfl, rfl, HX, HW, HB⟩ := hrel
            by_cases hkn : k < O.length
            · have hki : (k : Int) < (O.length : Int) := by omega
              obtain ⟨ob, of, eo, hx⟩ := intAt ((unhide HVO).below (unhide HW)) hkn
              subst eo
              obtain ⟨y, ey⟩ : ∃ y, O.getD k 0 = y := ⟨_, rfl⟩
              have HYM : Hid (y ∈ O) := by show _ ∈ _; rw [← ey]; exact mem_at.2 ⟨k, hkn, rfl⟩
              have HNX : Hid (y ∈ R.flatten → ∀ i, i < k + 1 → O.getD i 0 ∈ R.flatten) := fun hm i hi => by
                by_cases e : i = k
                · rw [e, ey]; exact hm
                · exact unhide HX i (by omega)
              rw [ey] at hx
              clear ey
              obtain ⟨cn, ecn⟩ : ∃ z, z = R.flatten.count y := ⟨_, rfl⟩
              have Q1 := hide fun (x' : Gr wr) => unhide HCN y x'.val (Below.step (unhide HW) x'.ok)
              rw [← ecn] at Q1
              have HCZ : Hid (cn = 0 → y ∉ R.flatten) := fun h => List.count_eq_zero.1 (ecn.symm.trans h)
              have HCP : Hid (cn ≠ 0 → y ∈ R.flatten) := fun h => List.count_pos_iff.1 (by omega)
              clear ecn
              go_upto_region 11 with (fail)
              by_cases hz : cn = 0
              · have ez : ((cn : Int) == 0) = true := by simp [hz]
                have HEV := hide (unhide HNO y (unhide HYM) (unhide HCZ hz))
                have HZ := hide hz
                clear hz
                have gt0 := fun x' : Gr wr => gr_cell ((unhide HB).cell (i := 0) rfl) x'
                have gt1 := fun x' : Gr wr => gr_cell ((unhide HB).cell (i := 1) rfl) x'
                have gt2 := fun x' : Gr wr => gr_cell (hx) x'
                have gsome := gr_some wr
                refine wp_region_grown (by kernel_rfl) (by kernel_rfl) ?_
                repeat (go_big_quiet_step (fail))
                go_big_quiet_want
                go_big_quiet_op
                go_big_quiet_call (exact calls_grown (unhide Q1 _))
                repeat (go_big_quiet_step (fail))
                refine wpQuiet_nil ?_
                intro wz hw1
                obtain ⟨z', hz⟩ := hw1
                have hb : Below wr.heap.size wr wz := hz ▸ z'.ok
                clear hz z' gsome gt0 gt1 gt2
                replace HW := hide (Below.step (unhide HW) hb)
                clear hb hx
                go_wp2
                go_ret2
                exact ⟨by rw [unhide HEV]; rfl, unhide HW⟩
              · have ez : ((cn : Int) == 0) = false := by simp; omega
                have HN := hide (unhide HNX (unhide HCP hz))
                have gt0 := fun x' : Gr wr => gr_cell ((unhide HB).cell (i := 0) rfl) x'
                have gt1 := fun x' : Gr wr => gr_cell ((unhide HB).cell (i := 1) rfl) x'
                have gt2 := fun x' : Gr wr => gr_cell (hx) x'
                have gsome := gr_some wr
                refine wp_region_grown (by kernel_rfl) (by kernel_rfl) ?_
                repeat (go_big_quiet_step (fail))
                go_big_quiet_want
                go_big_quiet_op
                go_big_quiet_call (exact calls_grown (unhide Q1 _))
                repeat (go_big_quiet_step (fail))
                refine wpQuiet_nil ?_
                intro wz hw1
                obtain ⟨z', hz⟩ := hw1
                have hb : Below wr.heap.size wr wz := hz ▸ z'.ok
                clear hz z' gsome gt0 gt1 gt2
                replace HW := hide (Below.step (unhide HW) hb)
                replace HB := hide ((unhide HB).step hb)
                clear hb hx
                go_wp2
                go_roundg (O.length - (k + 1))
                case measure => omega
                case rel => exact ⟨k + 1, by omega, rfl, by go_num, HN, HW, HB⟩
            · have hkk : k = O.length := by omega
              have HSY := hide (unhide HSM (by have h1 := unhide HX; rw [hkk] at h1; exact h1))
              have HLN := hide fun hn => (unhide EA).trans (lstA_none (H := H) (R := R) (O := O) (m := most) hn)
              have HLS := hide fun (n : Nat) h1 h2 h3 => (unhide EA).trans (lstA_some (n := n) (unhide HSY) h1 h2 h3)
              have HCG := hide fun (m : Nat) (hm : m ≤ 8) W (hb : Below w.heap.size w W) => unhide HCA hO7 m (unhide HSY).st hm W hb
              obtain ⟨cc, ecc⟩ : ∃ cc : Nat → Bool, cc = fun n => canP H O.length n (pilesOf O R) 0 := ⟨_, rfl⟩
              have ecc2 : ∀ n, canP H O.length n (pilesOf O R) 0 = cc n := fun n => by rw [ecc]
              simp only [ecc2] at HCG HLN HLS
              have hnk : ¬ ((k : Int) < (O.length : Int)) := by omega
              clear ecc ecc2 hkk HX HNO HSM
              go_wp2
              go_loopg [11] 10 (fun gh mv wr => ∃ q : Nat, gh = 10 - q ∧ q ≤ 9 ∧ mv = .int .i64 (q : Int) ∧ Hid (∀ j, j < q → cc j = false) ∧ Hid (Below w.heap.size w wr) ∧ Hid (OwnV wr g0 [.int .i64 H, .slice ao R.length cap]))
              case atStart => exact ⟨0, rfl, by omega, rfl, fun j hj => absurd hj (Nat.not_lt_zero j), HW, HB⟩
              case round =>
                clear HW HB
                obtain ⟨q, rfl, hq, rfl, HJ, HW, HB⟩ := hrel
                by_cases hqm : (q : Int) ≤ most
                · have eqm : decide ((q : Int) ≤ most) = true := by simpa using hqm
                  have HCQ := hide (unhide HCG q (by omega) wr (unhide HW))
                  have b0 := (unhide HB).cell (i := 0) rfl
                  have b1 := (unhide HB).cell (i := 1) rfl
                  cases hr : cc q with
                  | true =>
                    rw [hr] at HCQ
                    have HEV := hide (unhide HLS q hqm hr (unhide HJ))
                    clear hr
                    go_wp2_with fail
                    refine (unhide HCQ).mono ?_
                    rintro e w8 ⟨rfl, hb⟩
                    replace HW := hide (Below.step (unhide HW) hb)
                    clear hb b0 b1
                    go_wp2
                    go_ret2
                    exact ⟨by rw [unhide HEV]; rfl, unhide HW⟩
                  | false =>
                    rw [hr] at HCQ
                    have HJ2 : Hid (∀ j, j < q + 1 → cc j = false) := fun j hj => by
                      by_cases e : j = q
                      · rw [e]; exact hr
                      · exact unhide HJ j (by omega)
                    clear hr
                    go_wp2_with fail
                    refine (unhide HCQ).mono ?_
                    rintro e w8 ⟨rfl, hb⟩
                    replace HW := hide (Below.step (unhide HW) hb)
                    replace HB := hide ((unhide HB).step hb)
                    clear hb b0 b1
                    go_wp2
                    go_roundg (10 - (q + 1))
                    case measure => omega
                    case rel => exact ⟨q + 1, rfl, by omega, by go_num, HJ2, HW, HB⟩
                · have eqm : decide ((q : Int) ≤ most) = false := by simpa using hqm
                  have HEV := hide (unhide HLN (fun n hn => unhide HJ n (by omega)))
                  go_wp2
                  go_ret2
                  exact ⟨by rw [unhide HEV]; rfl, unhide HW⟩

theorem specLeastShuffles_any (H : Int) (v : Value) (R : List (List Int)) (ov : Value) (O : List Int) (m : Int) (w : World) (h : RowsIn w v R) (hO : IntsIn w ov O) :
    Calls Try.prog 20 #[yardV H v, ov, .int .i64 m] w fun e w' => e = .returned (.tuple #[.int .i64 (leastV H R O m).1, .bool (leastV H R O m).2]) ∧ Below w.heap.size w w' := specLeastShuffles_a H v R ov O m w h hO

end Go.Proofs.Ytdiifkeebgdfkaa
