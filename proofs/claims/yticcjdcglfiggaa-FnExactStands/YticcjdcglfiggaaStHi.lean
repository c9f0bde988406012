/- The contract of the program's Flood. -/
import Derived.Test.YticcjdcglfiggaaStH
import Derived.Deep.RegionHeld3
namespace Go.Proofs.Yticcjdcglfiggaa
open Go.RowKit

/-- A holed hull: its numbers, its rows (nothing where the rooms aren't right). -/
def fStep (step rise : Int) (R : List (List Int)) (L : List I3) : Int := if roomsB step rise R L = true then step else 0
def fRise (step rise : Int) (R : List (List Int)) (L : List I3) : Int := if roomsB step rise R L = true then rise else 0
def fRows (step rise : Int) (R : List (List Int)) (L : List I3) : List (List Int) := if roomsB step rise R L = true then dips R (fun s => permTo L s L.length) else []

theorem roomsB_at {step rise : Int} {R : List (List Int)} {L : List I3} (h : roomsB step rise R L = true) : hullOk step rise R = true ∧ L.length ≤ 8 ∧ ∀ r, r < L.length → roomAt R.length L r = true := by
  unfold roomsB at h
  simp only [Bool.and_eq_true, decide_eq_true_eq, List.all_eq_true, List.mem_range] at h
  exact ⟨h.1.1, h.1.2, h.2⟩

/-- What room k of right rooms is: within the hull; no station of it lies in one ahead. -/
theorem room_at {n : Nat} {L : List I3} {k : Nat} {x y z : Int} (h : roomAt n L k = true) (hk : k ≤ L.length) (e : L.getD k default = (x, y, z)) :
    0 ≤ x ∧ x ≤ y ∧ y < n ∧ 0 ≤ z ∧ z ≤ 100 ∧ ∀ t : Nat, x ≤ t → (t : Int) ≤ y → permTo L t k = 0 := by
  unfold roomAt at h
  rw [e] at h
  simp only [Bool.and_eq_true, Bool.not_eq_true'] at h
  obtain ⟨h1, h2⟩ := h
  unfold roomB at h1
  simp only [Bool.and_eq_true, decide_eq_true_eq] at h1
  obtain ⟨⟨⟨a1, a2⟩, a3⟩, a4⟩ := h1
  have a4 := inB_true a4
  refine ⟨a1, a2, a3, a4.1, a4.2, fun t ht1 ht2 => ?_⟩
  have hm : ∀ j, j < k → meetB (x, y, z) (L.getD j default) = false := fun j hj => by
    have := List.any_eq_false.1 h2 (L.getD j default) (by
      rw [List.mem_take_iff_getElem]
      exact ⟨j, by omega, by rw [getD_lt (by omega)]⟩)
    simpa using this
  clear h2
  have : ∀ j, j ≤ k → permTo L t j = 0 := fun j => by
    induction j with
    | zero => intro _; rfl
    | succ j ih =>
      intro hj
      rw [permTo, if_neg, ih (by omega)]
      intro hin
      have hin := inB_true hin
      have hmm := hm j (by omega)
      unfold meetB at hmm
      simp only [Bool.and_eq_false_iff, decide_eq_false_iff_not] at hmm
      omega
  exact this k (Nat.le_refl _)

/-- While rooms are let in: of w2 only the rows have turned; each row is let in by P. -/
structure FlSt (B : Nat) (w2 wr : World) (g : Nat) (G C : Nat → Nat) (R : List (List Int)) (P : Nat → Int) : Prop where
  kept : Kept (fun b => ∃ r, r < R.length ∧ b = G r) w2 wr
  rows : OwnRows B wr g G C (dips R P)

theorem FlSt.alloc {B : Nat} {w2 wr : World} {g : Nat} {G C : Nat → Nat} {R : List (List Int)} {P : Nat → Int} (h : FlSt B w2 wr g G C R P) (o : Obj) : FlSt B w2 (wr.alloc o) g G C R P :=
  ⟨h.kept.trans (kept_of_below (Below.alloc1 wr o)), h.rows.below (Below.alloc1 wr o)⟩

theorem FlSt.drew {B : Nat} {w2 wr : World} {g : Nat} {G C : Nat → Nat} {R : List (List Int)} {P : Nat → Int} (h : FlSt B w2 wr g G C R P) : FlSt B w2 wr.drew g G C R P :=
  ⟨h.kept.trans (kept_of_below (Below.refl _ _).drew), h.rows.below (Below.refl _ _).drew⟩

theorem FlSt.congr {B : Nat} {w2 wr : World} {g : Nat} {G C : Nat → Nat} {R : List (List Int)} {P Q : Nat → Int} (h : FlSt B w2 wr g G C R P) (e : ∀ s, s < R.length → P s = Q s) : FlSt B w2 wr g G C R Q :=
  ⟨h.kept, by rw [← dips_congr e]; exact h.rows⟩

theorem FlSt.top {B : Nat} {w2 wr : World} {g : Nat} {G C : Nat → Nat} {R : List (List Int)} {P : Nat → Int} (h : FlSt B w2 wr g G C R P) {t : Nat} (ht : t < R.length) : wr.cell? ⟨g, t, none⟩ = some (.slice (some ⟨G t, 0, none⟩) (R.getD t []).length (C t)) := by
  have := h.rows.top.cell (tops_get G C _ (r := t) (by rw [dips_len]; exact ht))
  rwa [dips_get R P ht, dipRow_len] at this

theorem FlSt.row {B : Nat} {w2 wr : World} {g : Nat} {G C : Nat → Nat} {R : List (List Int)} {P : Nat → Int} (h : FlSt B w2 wr g G C R P) {t : Nat} (ht : t < R.length) (hz : P t = 0) : OwnV wr (G t) (ints (R.getD t [])) := by
  have := h.rows.rows t (by rw [dips_len]; exact ht)
  rwa [dips_get R P ht, hz, dipRow_zero] at this

theorem FlSt.step {B : Nat} {w2 wr w' : World} {g : Nat} {G C : Nat → Nat} {R : List (List Int)} {P : Nat → Int} (h : FlSt B w2 wr g G C R P) {t : Nat} {p : Int} (ht : t < R.length) (hz : P t = 0) (hk : Kept (fun b => b = G t) wr w') (ho : OwnV w' (G t) (ints (dipRow p (R.getD t [])))) :
    FlSt B w2 w' g G C R (fun s => if s = t then p else P s) := by
  refine ⟨h.kept.trans (hk.mono fun k _ e => ⟨t, ht, e⟩), ?_⟩
  rw [← dips_set ht hz]
  refine h.rows.setRow (by rw [dips_len]; exact ht) hk ?_ (by rw [dipRow_len])
  rw [dips_get R P ht, hz, dipRow_zero]
  exact ho

set_option maxHeartbeats 3200000 in
theorem implFlood_any (step rise : Int) (v : Value) (R : List (List Int)) (u : Value) (L : List I3) (w : World) (h : RowsIn w v R) (hL : R3 w u L) :
    Calls Try.prog 20 #[hullV step rise v, u] w fun e w' => ∃ ao n cap, e = .returned (hullV (fStep step rise R L) (fRise step rise R L) (.slice ao n cap)) ∧ OwnRowsV w.heap.size w' (.slice ao n cap) (fRows step rise R L) ∧ Below w.heap.size w w' := by
  have HV := hide h
  have HU := hide hL
  obtain ⟨ao, cap, rfl, hl, hm, hc⟩ := h
  obtain ⟨ao1, cap1, rfl, hl1, hm1, hc1⟩ := hL
  unfold maxLen at hm hm1
  have HC := hide hc1
  clear hc hc1
  unfold hullV
  obtain ⟨W0, eW0⟩ : ∃ W, W = (w.alloc (.cells #[.int .i64 step, .int .i64 rise, .slice ao R.length cap] 26)).alloc (.cells #[.int .i64 0, .int .i64 0, .slice none 0 0] 26) := ⟨_, rfl⟩
  have HW0 : Hid (Below w.heap.size w W0) := by show Below _ _ _; rw [eW0]; exact Below.step (Below.alloc1 _ _) (Below.alloc1 _ _)
  have HB0 : Hid (OwnV W0 w.heap.size [.int .i64 step, .int .i64 rise, .slice ao R.length cap]) := by show OwnV _ _ _; rw [eW0]; exact OwnV.alloc (ownV_alloc w #[.int .i64 step, .int .i64 rise, .slice ao R.length cap] _) _
  have HA0 : Hid (OwnV W0 (w.heap.size + 1) [.int .i64 0, .int .i64 0, .slice none 0 0]) := by
    show OwnV _ _ _
    rw [eW0]
    have := ownV_alloc (w.alloc (.cells #[.int .i64 step, .int .i64 rise, .slice ao R.length cap] 26)) #[.int .i64 0, .int .i64 0, .slice none 0 0] 26
    simpa using this
  go_enter Try.func20, Try.ntmps20
  go_wp2_with fail
  rw [← eW0]
  clear eW0
  refine (implRoomsOk_any step rise _ R _ L _ ((unhide HV).below (unhide HW0)) ((unhide HU).below (unhide HW0))).mono ?_
  rintro e w1 ⟨rfl, hb⟩
  have HW1 := hide (Below.step (unhide HW0) hb)
  have HB1 := hide (OwnV.step (unhide HB0) hb)
  have HA1 := hide (OwnV.step (unhide HA0) hb)
  have hz : w.heap.size + 1 < w1.heap.size := (unhide HA1).lt
  clear hb HW0 HB0 HA0
  cases hok : roomsB step rise R L with
  | false =>
    have E1 : Hid (fStep step rise R L = 0 ∧ fRise step rise R L = 0 ∧ fRows step rise R L = []) := by show _ ∧ _ ∧ _; simp [fStep, fRise, fRows, hok]
    clear hok
    have r0 := OwnV.cell (unhide HA1) (i := 0) rfl
    have r1 := OwnV.cell (unhide HA1) (i := 1) rfl
    have r2 := OwnV.cell (unhide HA1) (i := 2) rfl
    have s0 := (unhide HA1).frozen
    go_wp2
    refine bodyPost_ret (v := .agg #[.int .i64 0, .int .i64 0, .slice none 0 0]) (by simp [results, Try.results20, go_sem, r0, r1, r2]) rfl ⟨none, 0, 0, ?_, ?_, ?_⟩
    · rw [(unhide E1).1, (unhide E1).2.1]
    · rw [(unhide E1).2.2]; exact Or.inl ⟨rfl, rfl⟩
    · exact (((unhide HW1).setCell (by simp) _).setCell (by simp) _).setCell (by simp) _
  | true =>
    have E1 : Hid (fStep step rise R L = step ∧ fRise step rise R L = rise ∧ fRows step rise R L = dips R (fun s => permTo L s L.length)) := by show _ ∧ _ ∧ _; simp [fStep, fRise, fRows, hok]
    obtain ⟨hok1, hlen, hrooms⟩ := roomsB_at hok
    have hR := hullOk_right hok1
    have hl1 := hR.len1
    have hl2 := hR.len2
    have HR := hide hR
    have HRm := hide hrooms
    clear hok hok1 hR hrooms
    have hmk := run_make_row' (P := Try.prog) 24 31 (.slice none 0 0) 24 Try.underlying24 Try.info31 rfl .i64 .i64 R.length (by omega) (by omega)
    have c2 := OwnV.cell (unhide HB1) (i := 2) rfl
    go_wp2
    clear hmk c2
    go_loopg [21] R.length (fun gh iv wr => ∃ k : Nat, ∃ G C, k ≤ R.length ∧ gh = R.length - k ∧ iv = .int .i64 k ∧ FillM w1 wr R k G C)
    case atStart => exact ⟨0, _, _, Nat.zero_le _, rfl, rfl, fillM_start _ _ _ rfl⟩
    case round =>
      obtain ⟨k, G, C, hk, rfl, rfl, hF⟩ := hrel
      have HB2 := hide (OwnV.step (unhide HB1) hF.below)
      have c0 := OwnV.cell (unhide HB2) (i := 0) rfl
      have c1 := OwnV.cell (unhide HB2) (i := 1) rfl
      have c2 := OwnV.cell (unhide HB2) (i := 2) rfl
      have HWr := hide (Below.step (unhide HW1) hF.below)
      have HF := hide hF
      clear hF
      by_cases hkn : k < R.length
      · have HS := hide (station_any step rise _ R (k : Int) k wr ((unhide HV).below (unhide HWr)) rfl hkn)
        go_wp2_with fail
        refine (unhide HS).mono ?_
        rintro e w2 ⟨ar, m, rfl, hi, hb2⟩
        have hml : m = (R.getD 0 []).length := by rw [← (unhide HR).even k hkn]; exact hi.len.1.symm
        have hm1 : 2 ≤ m := by rw [hml]; exact (unhide HR).wat1
        have hm2 : m ≤ 10 := by rw [hml]; exact (unhide HR).wat2
        have EM : Hid ((R.getD k []).length = m) := hi.len.1
        have HI := hide (hi.below hb2)
        have HB2' := hide hb2
        clear hi hb2 hml HS c0 c1 c2
        go_wp2_with fail
        refine (ownCopy_any ar m m _ w2 (unhide HI) (by omega) (by omega)).mono ?_
        rintro e w3 ⟨g, cap3, rfl, hg, hc1, hc2, hov, hb3⟩
        have HN := hide (fillM_step (unhide HF) (unhide HB2') hg hov hb3 (by rw [unhide EM]; exact hc1) hc2)
        rw [unhide EM] at HN
        have hbt := ((unhide HF).top.of_block ((unhide HB2').block _ (unhide HF).top.lt)).of_block (hb3.block _ (Nat.lt_of_lt_of_le (unhide HF).top.lt (unhide HB2').size))
        have t1 : w3.cell? ⟨w1.heap.size, k, none⟩ = some (.slice none 0 0) := by
          have h3 := hbt.cell (i := k) hkn
          rwa [if_neg (Nat.lt_irrefl k)] at h3
        have t2 : w3.frozen? ⟨w1.heap.size, k, none⟩ = false := hbt.frozen k
        clear hov hb3 hg hc1 hc2 hbt HI HB2'
        go_wp2
        go_roundg (R.length - (k + 1))
        case measure => omega
        case rel => exact ⟨k + 1, _, _, by omega, rfl, by go_num, unhide HN⟩
      · have hkk : k = R.length := by omega
        subst hkk
        have HRw := hide (fillM_done (unhide HF))
        have HA2 := hide (OwnV.step (unhide HA1) (unhide HF).below)
        have hz2 := (unhide HF).below.size
        clear HF
        generalize wr = w2 at *
        have HS0 : Hid (FlSt w1.heap.size w2 w2 w1.heap.size G C R (fun s => permTo L s 0)) := by
          refine ⟨Kept.refl _ _, ?_⟩
          rw [show (fun s => permTo L s 0) = fun _ => (0 : Int) from rfl, dips_none]
          exact unhide HRw
        have HG : Hid (∀ r, r < R.length → w1.heap.size ≤ G r ∧ G r ≠ w1.heap.size ∧ G r < w2.heap.size) := fun r hr => ⟨((unhide HRw).above r hr).1, ((unhide HRw).above r hr).2, ((unhide HRw).rows r hr).lt⟩
        clear HRw
        go_wp2
        go_loopg [34] L.length (fun gh iv wr => ∃ k : Nat, k ≤ L.length ∧ gh = L.length - k ∧ iv = .int .i64 k ∧ FlSt w1.heap.size w2 wr w1.heap.size G C R (fun s => permTo L s k))
        case atStart => exact ⟨0, Nat.zero_le _, rfl, rfl, unhide HS0⟩
        case round =>
          obtain ⟨k, hk', rfl, rfl, hS⟩ := hrel
          have hb2 : Below w2.heap.size w2 wr → True := fun _ => trivial
          have HBe : Hid (Below w.heap.size w wr) := (unhide HWr).trans (hS.kept.below (by omega) (fun b ⟨r, hr, e⟩ => by have := (unhide HG r hr).1; omega))
          have HBx : Hid (OwnV wr w.heap.size [.int .i64 step, .int .i64 rise, .slice ao R.length cap]) := OwnV.kept (unhide HB2) hS.kept (fun ⟨r, hr, e⟩ => by have := (unhide HG r hr).1; omega)
          have HAx : Hid (OwnV wr (w.heap.size + 1) [.int .i64 0, .int .i64 0, .slice none 0 0]) := OwnV.kept (unhide HA2) hS.kept (fun ⟨r, hr, e⟩ => by have := (unhide HG r hr).1; omega)
          clear hb2 c0 c1 c2
          by_cases hkn' : k < L.length
          · obtain ⟨b, o, x, y, z, rfl, hc0, hc1, hc2, EX⟩ := rec3At (unhide HC) hkn'
            have g0 := wcell3 hc0 (unhide HBe)
            have g1 := wcell3 hc1 (unhide HBe)
            have g2 := wcell3 hc2 (unhide HBe)
            obtain ⟨x0, xy, yn, z0, z1, hper⟩ := room_at (unhide HRm k hkn') hk' (unhide EX)
            have HPer := hide hper
            have HR3 := hide (ownV_alloc wr #[.int .i64 x, .int .i64 y, .int .i64 z] 37)
            have HS3 := hide (hS.alloc (.cells #[.int .i64 x, .int .i64 y, .int .i64 z] 37))
            have hGlt : Hid (∀ r, r < R.length → G r < wr.heap.size) := fun r hr => (hS.rows.rows r (by rw [dips_len]; exact hr)).lt
            have HPs : Hid (∀ s : Nat, permTo L s (k + 1) = if inB s x y = true then z else permTo L s k) := fun s => by rw [permTo, unhide EX]
            clear hper hc0 hc1 hc2 hS EX HBx HAx
            generalize wr = w3 at *
            go_wp2
            clear g0 g1 g2
            go_loopg [9] (y + 1 - x).toNat (fun gh iv wr => ∃ t : Nat, x ≤ t ∧ (t : Int) ≤ y + 1 ∧ gh = (y + 1 - t).toNat ∧ iv = .int .i64 t ∧ OwnV wr w3.heap.size [.int .i64 x, .int .i64 y, .int .i64 z] ∧ FlSt w1.heap.size w2 wr w1.heap.size G C R (fun s => if x ≤ (s : Int) ∧ s < t then z else permTo L s k))
            case atStart =>
              refine ⟨x.toNat, by omega, by omega, by omega, by congr 1; omega, unhide HR3, (unhide HS3).congr (fun s _ => ?_)⟩
              rw [if_neg (by omega)]
            case round =>
              obtain ⟨t, ht1, ht2, rfl, rfl, hO, hT⟩ := hrel
              have d1 := OwnV.cell hO (i := 1) rfl
              have d2 := OwnV.cell hO (i := 2) rfl
              by_cases hty : (t : Int) ≤ y
              · have htR : t < R.length := by omega
                have e0 := hT.top htR
                have hml := (unhide HR).even t htR
                have hw1 := (unhide HR).wat1
                have hw2 := (unhide HR).wat2
                have hz0 : (fun s : Nat => if x ≤ (s : Int) ∧ s < t then z else permTo L s k) t = 0 := by
                  show (if x ≤ (t : Int) ∧ t < t then z else permTo L t k) = 0
                  rw [if_neg (by omega)]
                  exact unhide HPer t ht1 hty
                have HLet := hide (letIn_any (G t) (C t) (R.getD t []).length (R.getD t []) z wr.drew (hT.drew.row htR hz0) rfl (by omega) (fun i hi => (unhide HR).cells t i htR (by omega)) z0 z1)
                have HNx : Hid (∀ w5, Kept (fun b => b = G t) wr.drew w5 → OwnV w5 (G t) (ints (dipRow z (R.getD t []))) → OwnV w5 w3.heap.size [.int .i64 x, .int .i64 y, .int .i64 z] ∧ FlSt w1.heap.size w2 w5 w1.heap.size G C R (fun s => if x ≤ (s : Int) ∧ s < t + 1 then z else permTo L s k)) := fun w5 hk5 ho5 => by
                  refine ⟨OwnV.kept (OwnV.drew hO) hk5 (fun e => by have := unhide hGlt t htR; omega), (hT.drew.step htR hz0 hk5 ho5).congr (fun s _ => ?_)⟩
                  show (if s = t then z else if x ≤ (s : Int) ∧ s < t then z else permTo L s k) = _
                  by_cases es : s = t
                  · subst es; rw [if_pos rfl, if_pos (by omega)]
                  · rw [if_neg es]
                    by_cases e2 : x ≤ (s : Int) ∧ s < t
                    · rw [if_pos e2, if_pos (by omega)]
                    · rw [if_neg e2, if_neg (by omega)]
                rw [hml] at e0 HLet
                have EM := hide hml
                clear hml
                clear hO hT hz0
                generalize (R.getD 0 []).length = m at *
                go_wp2
                go_region_held3 (fun w' => w'.cell? ⟨w1.heap.size, t, none⟩ = some (.slice (some ⟨G t, 0, none⟩) m (C t)) ∧ w'.cell? ⟨w3.heap.size, 2, none⟩ = some (.int .i64 z)) (go_keep) (first | (go_at_call 59; refine (unhide HLet).mono ?_; rintro e w5 ⟨rfl, hk5, ho5⟩; have HN := hide (unhide HNx w5 hk5 ho5); have f1 := (unhide HN).2.top htR; rw [unhide EM] at f1; have f2 := OwnV.cell (unhide HN).1 (i := 2) rfl; clear hk5 ho5))
                go_wp2
                go_roundg (y + 1 - ((t + 1 : Nat) : Int)).toNat
                case measure => omega
                case rel => exact ⟨t + 1, by omega, by omega, rfl, by go_num, unhide HN⟩
              · have htt : (t : Int) = y + 1 := by omega
                have HT' : Hid (FlSt w1.heap.size w2 wr w1.heap.size G C R (fun s => permTo L s (k + 1))) := hT.congr (fun s _ => by
                  rw [unhide HPs s]
                  by_cases e2 : x ≤ (s : Int) ∧ s < t
                  · rw [if_pos e2, if_pos (inB_mk e2.1 (by omega))]
                  · rw [if_neg e2, if_neg (by intro hin; have := inB_true hin; omega)])
                clear hT
                go_wp2
                go_roundg (L.length - (k + 1))
                case measure => omega
                case rel => exact ⟨k + 1, by omega, rfl, by go_num, unhide HT'⟩
          · have hkk : k = L.length := by omega
            subst hkk
            have c0 := OwnV.cell (unhide HBx) (i := 0) rfl
            have c1 := OwnV.cell (unhide HBx) (i := 1) rfl
            have r0 := OwnV.cell (unhide HAx) (i := 0) rfl
            have r1 := OwnV.cell (unhide HAx) (i := 1) rfl
            have r2 := OwnV.cell (unhide HAx) (i := 2) rfl
            have s0 := (unhide HAx).frozen
            have HSx := hide hS.rows
            clear hS
            go_wp2
            refine bodyPost_ret (v := .agg #[.int .i64 step, .int .i64 rise, .slice (some ⟨w1.heap.size, 0, none⟩) R.length R.length]) (by simp [results, Try.results20, go_sem, r0, r1, r2]) rfl ⟨some ⟨w1.heap.size, 0, none⟩, R.length, R.length, ?_, ?_, ?_⟩
            · rw [(unhide E1).1, (unhide E1).2.1]
            · rw [(unhide E1).2.2]
              refine Or.inr ⟨w1.heap.size, G, C, R.length, by rw [dips_len], by rw [dips_len]; exact Nat.le_refl _, by unfold maxLen; omega, ?_⟩
              exact ((((unhide HSx).setBelow (by simpa using hz) _).setBelow (by simpa using hz) _).setBelow (by simpa using hz) _).mono (by omega)
            · exact (((unhide HBe).setCell (by simp) _).setCell (by simp) _).setCell (by simp) _

end Go.Proofs.Yticcjdcglfiggaa
