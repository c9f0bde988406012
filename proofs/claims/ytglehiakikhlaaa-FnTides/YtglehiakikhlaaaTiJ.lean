/- The program's phases: a row of complex numbers; contracts of startsOf and TideDay. -/
import Derived.Test.YtglehiakikhlaaaTdI
import Derived.Test.YtglehiakikhlaaaFlI2
import Derived.Test.YtglehiakikhlaaaOwM
import Derived.Deep.RegionHeld3
import Derived.Deep.RegionWith
import Derived.Deep.DeepCutAuto
namespace Go.Proofs.Ytglehiakikhlaaa
open Go.RowKit

attribute [local go_sem] run_store_float run_store_complex

def cE (p : F2) : Value := .complex .f64 p.1 p.2
def startOf (h : F4) : F2 := (h.1, h.2.1)
theorem Try.infoC128 : (Try.prog.info? 84).map (fun i => (i.zero, i.size, i.bytes)) = some (some (.complex .f64 0 0), 1, 16) := by kernel_rfl

set_option maxRecDepth 10000 in
set_option maxHeartbeats 4000000 in
theorem startsOf_any (v : Value) (L : List F4) (w : World) (h : RH w v L) (h8 : L.length ≤ 8) :
    Calls Try.prog 52 #[v] w fun e w' => ∃ g, e = .returned (.slice (some ⟨g, 0, none⟩) L.length L.length) ∧ w.heap.size ≤ g ∧ OwnV w' g ((L.map startOf).map cE) ∧ Below w.heap.size w w' := by
  obtain ⟨ao, cap, rfl, hl, hm, hc⟩ := h
  unfold maxLen at hm
  have HC := hide hc
  clear hc
  have h8i : (L.length : Int) ≤ 8 := by omega
  have hmk := run_make_row' (P := Try.prog) 82 84 (.complex .f64 0 0) 16 Try.underlying82 Try.infoC128 rfl .i64 .i64 L.length (by omega) (by omega)
  have HF0 := hide (fill_made cE w (.complex .f64 0 0) L.length 84)
  go_enter Try.func52, Try.ntmps52
  go_wp2
  clear hmk
  go_loopg [11] L.length (fun g i wr => ∃ k : Nat, k ≤ L.length ∧ g = L.length - k ∧ i = .int .i64 k ∧ ∃ ys, ys = (L.take k).map startOf ∧ ys.length = k ∧ FilE cE (.complex .f64 0 0) L.length w.heap.size w wr ys)
  case atStart => exact ⟨0, Nat.zero_le _, rfl, rfl, [], rfl, rfl, unhide HF0⟩
  case round =>
    obtain ⟨k, hk, rfl, rfl, ys, hys, hyl, hF⟩ := hrel
    have HG := hide hF
    have HY := hide hys
    have HYL := hide hyl
    clear hF hys HF0
    by_cases hkn : k < L.length
    · obtain ⟨b, o, x, y, z, p, rfl, hx, hy, hz, hp, EX⟩ := recHAt (unhide HC) hkn
      have g0 := ((unhide HG).below.cell (lt_of_cell hx)).trans hx
      have g1 := ((unhide HG).below.cell (lt_of_cell hy)).trans hy
      have g2 := ((unhide HG).below.cell (lt_of_cell hz)).trans hz
      have g3 := ((unhide HG).below.cell (lt_of_cell hp)).trans hp
      have ET : Hid ((L.take (k + 1)).map startOf = (L.take k).map startOf ++ [(x, y)]) := by show _ = _; rw [take_snoc L hkn, List.map_append, unhide EX]; rfl
      have hki : (k : Int) < L.length := by omega
      have HN := hide fun V => waveNumber_any x y V
      unfold vW at HN
      have A := Below.alloc1 wr (.cells #[.float .f64 x, .float .f64 y, .float .f64 z, .float .f64 p] 41)
      replace HG := hide ((unhide HG).step A)
      clear hx hy hz hp EX A hyl
      go_wp2_with fail
      refine (unhide HN _).mono ?_
      rintro e w1 ⟨rfl, hb⟩
      replace HG := hide ((unhide HG).step hb)
      have q1 := (unhide HG).lt (by have := unhide HYL; omega)
      have q2 := (unhide HG).own.frozen k
      rw [unhide HYL] at q1
      clear hb HN g0 g1 g2 g3
      go_wp2
      go_roundg (L.length - (k + 1))
      case measure => omega
      case rel =>
        have hk1 := unhide HYL
        subst hk1
        exact ⟨ys.length + 1, by omega, rfl, by go_num, ys ++ [(x, y)], by rw [unhide ET, ← unhide HY], by simp, (unhide HG).next hkn (x, y)⟩
    · have hkk : k = L.length := by omega
      subst hkk
      rw [List.take_length] at HY
      have HO := hide (unhide HG).own
      rw [rowTo_full hyl, unhide HY] at HO
      have HB := hide (unhide HG).below
      clear HG hyl
      go_wp2
      go_ret
      exact ⟨_, rfl, Nat.le_refl _, unhide HO, unhide HB⟩

/-- The two rows of the call's own: the phases and the heights. -/
structure TD (w A : World) (gp gd : Nat) (P : List F2) (D : List Value) : Prop where
  ph : OwnV A gp (P.map cE)
  day : OwnV A gd D
  below : Below w.heap.size w A
  hp : w.heap.size ≤ gp
  hd : w.heap.size ≤ gd
  hne : gp ≠ gd
theorem TD.step {w A B : World} {gp gd : Nat} {P : List F2} {D : List Value} (h : TD w A gp gd P D) (hb : Below A.heap.size A B) : TD w B gp gd P D := ⟨h.ph.step hb, h.day.step hb, Below.step h.below hb, h.hp, h.hd, h.hne⟩
theorem TD.drewN {w A : World} {gp gd : Nat} {P : List F2} {D : List Value} (h : TD w A gp gd P D) (n : Nat) : TD w (A.drewN n) gp gd P D := ⟨h.ph, h.day, below_drewN h.below n, h.hp, h.hd, h.hne⟩
theorem TD.setP {w A : World} {gp gd : Nat} {P : List F2} {D : List Value} (h : TD w A gp gd P D) {j : Nat} (hj : j < P.length) (x : F2) : TD w (A.setCell ⟨gp, j, none⟩ (cE x)) gp gd (P.set j x) D :=
  ⟨by rw [List.map_set]; exact h.ph.set j _ (by simpa using hj), h.day.other (a := ⟨gp, j, none⟩) (fun e => h.hne e.symm) _, h.below.setCell (p := ⟨gp, j, none⟩) h.hp _, h.hp, h.hd, h.hne⟩
theorem TD.setD {w A : World} {gp gd : Nat} {P : List F2} {D : List Value} (h : TD w A gp gd P D) {j : Nat} (hj : j < D.length) (x : Value) : TD w (A.setCell ⟨gd, j, none⟩ x) gp gd P (D.set j x) :=
  ⟨h.ph.other (a := ⟨gd, j, none⟩) h.hne _, h.day.set j _ hj, h.below.setCell (p := ⟨gd, j, none⟩) h.hd _, h.hp, h.hd, h.hne⟩
theorem TD.cellP {w A : World} {gp gd : Nat} {P : List F2} {D : List Value} (h : TD w A gp gd P D) {j : Nat} (hj : j < P.length) : A.cell? ⟨gp, j, none⟩ = some (.complex .f64 (P.getD j default).1 (P.getD j default).2) := h.ph.cell (map_get (E := cE) P hj)

theorem TD.cellPk {w A : World} {gp gd : Nat} {P : List F2} {D : List Value} (h : TD w A gp gd P D) {j a c : Nat} (hj : j < P.length) (e : P.getD j default = (a, c)) : A.cell? ⟨gp, j, none⟩ = some (.complex .f64 a c) := by
  rw [h.cellP hj, e]

theorem rowTo_last {ys : List Nat} {m N q : Nat} (hl : ys.length = m) (hm : m < N) : (rowTo (Value.float .f64) (.float .f64 0) N (ys ++ [q]))[m]? = some (.float .f64 q) := by
  subst hl
  simp [rowTo]
theorem rowTo_put {ys : List Nat} {m N q q' : Nat} (hl : ys.length = m) : (rowTo (Value.float .f64) (.float .f64 0) N (ys ++ [q])).set m (.float .f64 q') = rowTo (Value.float .f64) (.float .f64 0) N (ys ++ [q']) := by
  subst hl
  simp [rowTo]

theorem height_next {L : List F4} {mean m k q q' a c : Nat} {P : List F2} (hP : phOk L m k P) (hk : k < L.length) (e : P.getD k default = (a, c)) (hq : fsame .f64 q (heightTo L mean m k)) (hq' : fsame .f64 q' (fop .add .f64 q a)) : fsame .f64 q' (heightTo L mean m (k + 1)) := by
  have h1 := (hP.2 k hk).1
  rw [if_neg (by omega), e] at h1
  exact fop_to hq' hq h1

/-- The sum as a function of world and operands: for a walk by rewriting. -/
theorem run_sum_fun : ∃ (F M : World → Nat → Nat → Nat), ∀ V x y, (binOp .add 25 (.float .f64 x) (.float .f64 y)).run Try.prog V = .ok (.float .f64 (F V x y)) (V.drewN (M V x y)) ∧ fsame .f64 (F V x y) (fop .add .f64 x y) :=
  ⟨fun V x y => (run_float_any (P := Try.prog) V .add (by simp) 25 .f64 x y).choose, fun V x y => (run_float_any (P := Try.prog) V .add (by simp) 25 .f64 x y).choose_spec.choose, fun V x y => (run_float_any (P := Try.prog) V .add (by simp) 25 .f64 x y).choose_spec.choose_spec⟩

theorem phOk_begin (L : List F4) : phOk L 0 0 (L.map startOf) := ⟨by simp, fun j hj => by
  rw [if_neg (by omega)]
  have e : (L.map startOf).getD j default = startOf (L.getD j default) := by simp [List.getD, hj]
  rw [e]
  exact ⟨fsame.refl _ _, fsame.refl _ _⟩⟩

set_option maxRecDepth 10000 in
set_option maxHeartbeats 16000000 in
theorem implTideDay_any (v : Value) (mean : Nat) (L : List F4) (n : Int) (w : World) (h : RH w v L) :
    Calls Try.prog 16 #[.float .f64 mean, v, .int .i64 n] w fun e w' => ∃ a m cp, e = .returned (.tuple #[.slice a m cp, .bool (tideOk L n)]) ∧ OwnFls w.heap.size w' (.slice a m cp) (tideOf mean L n) ∧ Below w.heap.size w w' := by
  have HV := hide h
  obtain ⟨ao, cap, rfl, hl, hm, hc⟩ := h
  unfold maxLen at hm
  have HC := hide hc
  clear hc
  cases hok : tideOk L n with
  | false =>
    have HF : Hid (tideOf mean L n = []) := by show _ = _; rw [tideOf, if_neg (by rw [hok]; simp)]
    by_cases h8 : L.length ≤ 8
    · have h8i : (L.length : Int) ≤ 8 := by omega
      have hin : inB n 0 1500 = false := by rw [tideOk, decide_eq_true h8, Bool.true_and] at hok; exact hok
      clear hok HV
      go_enter Try.func16, Try.ntmps16
      go_wp2_with (go_at_call 51; refine (within_any _ _ _ _).mono ?_; rintro e w' ⟨rfl, rfl⟩)
      refine bodyPost_ret (v := .tuple #[.slice none 0 0, .bool false]) (by simp [results, Try.results16, go_sem]) rfl ⟨_, _, _, rfl, by rw [unhide HF]; exact ⟨[], fsames.refl _, ownC_nil _ _ _⟩, Below.refl _ _⟩
    · have h8i : (8 : Int) < L.length := by omega
      clear hok HV
      go_enter Try.func16, Try.ntmps16
      go_wp2
      refine bodyPost_ret (v := .tuple #[.slice none 0 0, .bool false]) (by simp [results, Try.results16, go_sem]) rfl ⟨_, _, _, rfl, by rw [unhide HF]; exact ⟨[], fsames.refl _, ownC_nil _ _ _⟩, Below.refl _ _⟩
  | true =>
    have HF : Hid (tideOf mean L n = (List.range n.toNat).map (fun i => heightTo L mean i L.length)) := by show _ = _; rw [tideOf, if_pos hok]
    simp only [tideOk, Bool.and_eq_true, decide_eq_true_eq] at hok
    obtain ⟨h8, hin⟩ := hok
    have hin' : 0 ≤ n ∧ n ≤ 1500 := by simpa [inB] using hin
    obtain ⟨N, rfl⟩ := Int.eq_ofNat_of_zero_le hin'.1
    rw [Int.toNat_natCast] at HF
    have hN : N ≤ 1500 := by omega
    have h8i : (L.length : Int) ≤ 8 := by omega
    have HSt := hide (startsOf_any _ L w (unhide HV) h8)
    have hmk := run_make_row' (P := Try.prog) 24 25 (.float .f64 0) 8 Try.underlying24 Try.infoF64 rfl .i64 .i64 N (by omega) (by omega)
    clear hin' HV
    go_enter Try.func16, Try.ntmps16
    go_wp2_with (first | (go_at_call 51; refine (within_any _ _ _ _).mono ?_; rintro e w9 ⟨rfl, h9⟩; have h8' := h9.symm; subst h8'; clear h9) | (go_at_call 52; refine (unhide HSt).mono ?_; rintro e w1 ⟨gp, rfl, hgp, hph, hb⟩; have HPH := hide hph; have HB1 := hide hb; clear hph hb HSt))
    clear hmk hin
    have HT0 : Hid (TD w (w1.alloc (.cells (madeCells #[.float .f64 0] N) 25)) gp w1.heap.size (L.map startOf) (rowTo (Value.float .f64) (.float .f64 0) N [])) :=
      ⟨(unhide HPH).alloc _, rowTo_made (Value.float .f64) w1 (.float .f64 0) N 25, Below.step (unhide HB1) (Below.alloc1 _ _), hgp, (unhide HB1).size, by have := (unhide HPH).lt; omega⟩
    clear HPH HB1
    generalize w1.heap.size = gd at *
    go_loopg [26] N (fun g i wr => ∃ m : Nat, m ≤ N ∧ g = N - m ∧ i = .int .i64 m ∧ ∃ P ys, phOk L m 0 P ∧ fsames ys ((List.range m).map (fun i => heightTo L mean i L.length)) ∧ ys.length = m ∧ TD w wr gp gd P (rowTo (Value.float .f64) (.float .f64 0) N ys))
    case atStart => exact ⟨0, Nat.zero_le _, rfl, rfl, _, [], phOk_begin L, fsames.refl _, rfl, unhide HT0⟩
    case round =>
      obtain ⟨m, hmN, rfl, rfl, P0, ys, hP0, hys, hyl, hT⟩ := hrel
      clear HT0
      by_cases hmn : m < N
      · have c0 := hT.day.cell (rowTo_get (E := Value.float .f64) (z := .float .f64 0) (n := N) (ys := ys) (by omega))
        have cf := hT.day.frozen m
        rw [hyl] at c0
        have HT := hide (hT.setD (j := m) (by rw [rowTo_len (by omega)]; exact hmn) (.float .f64 mean))
        rw [show m = ys.length from hyl.symm, rowTo_set (E := Value.float .f64) (by omega) mean] at HT
        rw [hyl] at HT
        have HP0 := hide hP0
        have HYS := hide hys
        have HYL := hide hyl
        have hmi : (m : Int) < N := by omega
        clear hT hP0 hys hyl
        generalize wr = wo at *
        go_wp2
        clear c0 cf
        obtain ⟨W1, e1⟩ : ∃ z, z = wo.setCell ⟨gd, m, none⟩ (.float .f64 mean) := ⟨_, rfl⟩
        rw [← e1] at HT ⊢
        clear e1
        go_loopg [35] L.length (fun g i wr => ∃ k : Nat, k ≤ L.length ∧ g = L.length - k ∧ i = .int .i64 k ∧ ∃ P q, phOk L m k P ∧ fsame .f64 q (heightTo L mean m k) ∧ TD w wr gp gd P (rowTo (Value.float .f64) (.float .f64 0) N (ys ++ [q])))
        case atStart => exact ⟨0, Nat.zero_le _, rfl, rfl, P0, mean, unhide HP0, fsame.refl _ _, unhide HT⟩
        case round =>
          obtain ⟨k, hk, rfl, rfl, P, q, hP, hq, hT⟩ := hrel
          clear HT HP0
          by_cases hkn : k < L.length
          · obtain ⟨b, o, x, y, z, p, rfl, hx, hy, hz, hp, EX⟩ := recHAt (unhide HC) hkn
            have g0 := (hT.below.cell (lt_of_cell hx)).trans hx
            have g1 := (hT.below.cell (lt_of_cell hy)).trans hy
            have g2 := (hT.below.cell (lt_of_cell hz)).trans hz
            have g3 := (hT.below.cell (lt_of_cell hp)).trans hp
            have hki : (k : Int) < L.length := by omega
            have hPl := hP.1
            have hB := ownV_alloc wr #[.float .f64 x, .float .f64 y, .float .f64 z, .float .f64 p] 41
            have AL := Below.alloc1 wr (.cells #[.float .f64 x, .float .f64 y, .float .f64 z, .float .f64 p] 41)
            have HT1 := hide (hT.step AL)
            have HBx := hide hB
            have hgb : wr.heap.size ≠ gd ∧ wr.heap.size ≠ gp := ⟨by have := hT.day.lt; omega, by have := hT.ph.lt; omega⟩
            obtain ⟨hgb1, hgb2⟩ := hgb
            have HP := hide hP
            have HQ := hide hq
            clear hx hy hz hp hT hB AL hP hq
            go_wp2_with fail
            obtain ⟨V0, e0⟩ : ∃ z', z' = wr.alloc (.cells #[.float .f64 x, .float .f64 y, .float .f64 z, .float .f64 p] 41) := ⟨_, rfl⟩
            rw [← e0] at HT1 HBx ⊢
            clear e0 g0 g1 g2 g3
            generalize wr.heap.size = gh at *
            have d0 : V0.cell? ⟨gd, m, none⟩ = some (.float .f64 q) := (unhide HT1).day.cell (rowTo_last (unhide HYL) hmn)
            have p0 := (unhide HT1).cellP (j := k) (by omega)
            have df := (unhide HT1).day.frozen m
            obtain ⟨a, c, ePk⟩ : ∃ a c, P.getD k default = (a, c) := ⟨_, _, rfl⟩
            rw [ePk] at p0
            have EPk := hide ePk
            clear ePk
            dsimp only at p0
            obtain ⟨F, M, hF⟩ := run_sum_fun
            have hrun := fun V a b => (hF V a b).1
            have HFS := hide fun V a b => (hF V a b).2
            clear hF
            go_cut [] (fun wx => ∃ q', fsame .f64 q' (fop .add .f64 q a) ∧ TD w wx gp gd P (rowTo (Value.float .f64) (.float .f64 0) N (ys ++ [q'])) ∧ OwnV wx gh [.float .f64 x, .float .f64 y, .float .f64 z, .float .f64 p])
            case first =>
              go_region_with (fail)
              all_goals
                go_wp2_with fail
                go_meet
                refine ⟨F V0.drew q a, unhide HFS _ _ _, ?_, ((unhide HBx).drewN (1 + M V0.drew q a)).other (a := ⟨gd, m, none⟩) hgb1 _⟩
                have hN := ((unhide HT1).drewN (1 + M V0.drew q a)).setD (j := m) (by rw [rowTo_len (by have := unhide HYL; simp; omega)]; exact hmn) (.float .f64 (F V0.drew q a))
                rw [rowTo_put (unhide HYL)] at hN
                exact hN
            case rest =>
              obtain ⟨q', hq', hT2, hB2⟩ := hcut
              clear HT1 HBx hrun HFS d0 p0 df
              have HQ' := hide hq'
              have p0 := hT2.cellPk (by omega) (unhide EPk)
              have pf := hT2.ph.frozen k
              have h2 := hB2.cell (i := 2) rfl
              have h3 := hB2.cell (i := 3) rfl
              have HT2 := hide hT2
              have HN := hide fun V => waveNumber_any z p V
              unfold vW at HN
              clear hq' hT2 hB2
              go_wp2_with fail
              go_region_with (first | (go_at_call 54; refine (unhide HN _).mono ?_; rintro e wt ⟨rfl, hb⟩; have HT3 := hide (((unhide HT2).drewN 1).step hb); clear hb; have p1 := (unhide HT3).cellPk (by omega) (unhide EPk); have pf1 := (unhide HT3).ph.frozen k) | (go_at_call 53; refine (times_any _ _ _ _ _).mono ?_; rintro e wu ⟨r, s, rfl, hr, hs, n, rfl⟩))
              all_goals
                have HT4 := hide (((unhide HT3).drewN n).setP (j := k) (by omega) (r, s))
                unfold cE at HT4
                go_wp2
                go_roundg (L.length - (k + 1))
                case measure => omega
                case rel => exact ⟨k + 1, by omega, rfl, by go_num, P.set k (r, s), q', (unhide HP).next hkn (unhide EX) (unhide EPk) hr hs, height_next (unhide HP) hkn (unhide EPk) (unhide HQ) (unhide HQ'), unhide HT4⟩
          · have hkk : k = L.length := by omega
            subst hkk
            have HT1 := hide hT
            have HP := hide hP
            have HQ := hide hq
            clear hT hP hq
            go_wp2
            go_roundg (N - (m + 1))
            case measure => omega
            case rel => exact ⟨m + 1, by omega, rfl, by go_num, P, ys ++ [q], (unhide HP).turn, by rw [List.range_succ, List.map_append]; exact (unhide HYS).snoc (unhide HQ), by simp [unhide HYL], unhide HT1⟩
      · have hkk : m = N := by omega
        subst hkk
        have HO : Hid (OwnC (Value.float .f64) w.heap.size wr (.slice (some ⟨gd, 0, none⟩) m m) ys) := ⟨_, m, by rw [hyl], by omega, by unfold maxLen; omega, fun _ => ⟨gd, rfl, hT.hd, by rw [← rowTo_full hyl]; exact hT.day⟩⟩
        have HW := hide hT.below
        rw [← unhide HF] at hys
        have HYS := hide hys
        clear hT hys hyl hP0
        go_wp2
        refine bodyPost_ret (v := .tuple #[.slice (some ⟨gd, 0, none⟩) m m, .bool true]) (by simp [results, Try.results16, go_sem]) rfl ⟨_, _, _, rfl, ⟨ys, unhide HYS, unhide HO⟩, unhide HW⟩

end Go.Proofs.Ytglehiakikhlaaa
