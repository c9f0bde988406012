/- Contract of the specification's TideDay. -/
import Derived.Test.YtglehiakikhlaaaTdI
import Derived.Test.YtglehiakikhlaaaTwoR
import Derived.WalkSmall
import Derived.BigRegion
import Derived.Deep.RegionWith
import Derived.Deep.DeepCutAuto
namespace Go.Proofs.Ytglehiakikhlaaa
open Go.RowKit

attribute [local go_sem] run_store_float

theorem Try.infoWave5 : (Try.prog.info? 37).map (fun i => (i.zero, i.size, i.bytes)) = some (some (vW 0 0), 2, 16) := by kernel_rfl

theorem row_keep {A B : World} {v v' : Value} {N size k : Nat} {e : TypeId} {ys : List Value} (h : A.ownsRow N e size v' k ys) (hg : A.grownBy B v.ownBlock) (hne : ∀ g, v.ownBlock = some g → v'.ownBlock ≠ some g) : B.ownsRow N e size v' k ys := by
  refine h.kept hg ?_
  cases hv : v'.ownBlock with
  | none => exact .inl rfl
  | some b => exact .inr (fun e' => hne b e'.symm hv)
theorem row_ne {A : World} {v v' : Value} {N size k g : Nat} {e : TypeId} {ys : List Value} (h : A.ownsRow N e size v' k ys) (hne : ∀ g, v.ownBlock = some g → v'.ownBlock ≠ some g) (hat : v.ownBlock = some g ∨ g = A.heap.size) : v'.ownBlock ≠ some g := by
  rcases hat with h3 | h3
  · exact hne _ h3
  · intro h2
    have := (h.lt _ h2).2
    omega

theorem l1In_keep (x a b : Int) (w : World) : Calls Try.prog 58 #[.int .i64 x, .int .i64 a, .int .i64 b] w fun e w' => e = .returned (.bool (inB x a b)) ∧ w = w' := (l1In_any x a b w).mono fun _ _ ⟨h1, h2⟩ => ⟨h1, h2.symm⟩

theorem phOk_start (L : List F4) : phOk L 0 0 (L.map (fun h => (h.1, h.2.1))) :=
  ⟨by simp, fun j hj => by
    rw [show (L.map (fun h : F4 => ((h.1, h.2.1) : F2))).getD j default = ((L.getD j default).1, (L.getD j default).2.1) by simp [List.getD, hj], if_neg (by omega)]
    exact ⟨fsame.refl _ _, fsame.refl _ _⟩⟩

theorem PhR.next {w B : World} {g cap : Nat} {P : List F2} {x y : Nat} (ho : B.ownsRow w.heap.size 37 2 (.slice (some ⟨g, 0, none⟩) (P.length + 1) cap) (P.length + 1) (recCells 2 eW P ++ [.float .f64 x, .float .f64 y])) :
    PhR w B (.slice (some ⟨g, 0, none⟩) (P.length + 1) cap) (P ++ [(x, y)]) := by
  refine ⟨?_, ⟨g, cap, by simp⟩⟩
  rw [recW_snoc, List.length_append]
  exact ho

/-- The two rows of TideDay. -/
structure TdS (w A : World) (pv ov : Value) (P : List F2) (M : List Nat) : Prop where
  p : PhR w A pv P
  o : GrowF w A ov M.length M
  ne : ∀ g, ov.ownBlock = some g → pv.ownBlock ≠ some g
theorem TdS.step {w A B : World} {pv ov : Value} {P : List F2} {M : List Nat} (h : TdS w A pv ov P M) (hb : Below A.heap.size A B) : TdS w B pv ov P M := ⟨h.p.step hb, h.o.step hb, h.ne⟩
theorem TdS.put {w A : World} {g cap : Nat} {ov : Value} {P : List F2} {M : List Nat} (h : TdS w A (.slice (some ⟨g, 0, none⟩) P.length cap) ov P M) {j : Nat} (hj : j < P.length) (x y : Nat) :
    TdS w ((A.setCell ⟨g, j * 2, none⟩ (.float .f64 x)).setCell ⟨g, j * 2 + 1, none⟩ (.float .f64 y)) (.slice (some ⟨g, 0, none⟩) P.length cap) ov (P.set j (x, y)) M := by
  have hg : w.heap.size ≤ g := (h.p.row.lt g rfl).1
  have hne : ov.ownBlock ≠ some g := fun e => h.ne g e rfl
  obtain ⟨ys, h1, h2⟩ := h.o.row
  exact ⟨h.p.put hj x y, ⟨⟨ys, h1, ownsRow_setOther (ownsRow_setOther h2 (a := ⟨g, j * 2, none⟩) hne _) (a := ⟨g, j * 2 + 1, none⟩) hne _⟩, h.o.len, (h.o.below.setCell (p := ⟨g, j * 2, none⟩) hg _).setCell (p := ⟨g, j * 2 + 1, none⟩) hg _, h.o.fv⟩, h.ne⟩

set_option maxRecDepth 10000 in
set_option maxHeartbeats 16000000 in
theorem specTideDay_any (v : Value) (mean : Nat) (L : List F4) (n : Int) (w : World) (h : RH w v L) :
    Calls Try.prog 22 #[.float .f64 mean, v, .int .i64 n] w fun e w' => ∃ a m cp, e = .returned (.tuple #[.slice a m cp, .bool (tideOk L n)]) ∧ OwnFls w.heap.size w' (.slice a m cp) (tideOf mean L n) ∧ Below w.heap.size w w' := by
  obtain ⟨ao, cap, rfl, hl, hm, hc⟩ := h
  unfold maxLen at hm
  have HC := hide hc
  clear hc
  obtain ⟨i0, hi, hz0, hz1, hz2⟩ := info_parts Try.infoF64
  obtain ⟨i1, hi', hy0, hy1, hy2⟩ := info_parts Try.infoWave5
  cases hok : tideOk L n with
  | false =>
    have HF : Hid (tideOf mean L n = []) := by show _ = _; rw [tideOf, if_neg (by rw [hok]; simp)]
    have HG0 := hide (growF_new w w (Below.refl _ _))
    have HO := hide (unhide HG0).done
    have HB := hide (unhide HG0).below
    clear HG0
    by_cases h8 : L.length ≤ 8
    · have h8i : (L.length : Int) ≤ 8 := by omega
      have hin : inB n 0 1500 = false := by rw [tideOk, decide_eq_true h8, Bool.true_and] at hok; exact hok
      clear hok
      go_enter Try.func22, Try.ntmps22
      go_wp2_with (go_at_call 58; refine (l1In_keep _ _ _ _).mono ?_; rintro e w' ⟨rfl, rfl⟩)
      refine bodyPost_ret (v := .tuple #[.slice (some ⟨w.heap.size, 0, none⟩) 0 0, .bool false]) (by simp [results, Try.results22, go_sem]) rfl ⟨_, _, _, rfl, by rw [unhide HF]; exact unhide HO, unhide HB⟩
    · have h8i : (8 : Int) < L.length := by omega
      clear hok
      go_enter Try.func22, Try.ntmps22
      go_wp2
      refine bodyPost_ret (v := .tuple #[.slice (some ⟨w.heap.size, 0, none⟩) 0 0, .bool false]) (by simp [results, Try.results22, go_sem]) rfl ⟨_, _, _, rfl, by rw [unhide HF]; exact unhide HO, unhide HB⟩
  | true =>
    have HF : Hid (tideOf mean L n = (List.range n.toNat).map (fun i => heightTo L mean i L.length)) := by show _ = _; rw [tideOf, if_pos hok]
    simp only [tideOk, Bool.and_eq_true, decide_eq_true_eq] at hok
    obtain ⟨h8, hin⟩ := hok
    have hin' : 0 ≤ n ∧ n ≤ 1500 := by simpa [inB] using hin
    obtain ⟨N, rfl⟩ := Int.eq_ofNat_of_zero_le hin'.1
    rw [Int.toNat_natCast] at HF
    have hN : N ≤ 1500 := by omega
    have h8i : (L.length : Int) ≤ 8 := by omega
    have HP0 := hide (phR_new w w (Below.refl _ _))
    have HB0 := hide (Below.alloc1 w (.cells #[] 37))
    clear hin'
    go_enter Try.func22, Try.ntmps22
    go_wp2_with (go_at_call 58; refine (l1In_keep _ _ _ _).mono ?_; rintro e w' ⟨rfl, rfl⟩)
    clear hin
    go_loopg [8, 9] L.length (fun g pv kv wr => ∃ k : Nat, k ≤ L.length ∧ g = L.length - k ∧ kv = .int .i64 k ∧ PhR w wr pv ((L.take k).map (fun h => (h.1, h.2.1))) ∧ Hid (Below w.heap.size w wr))
    case atStart => exact ⟨0, Nat.zero_le _, rfl, rfl, unhide HP0, HB0⟩
    case round =>
      obtain ⟨k, hk, rfl, rfl, hP, HB⟩ := hrel
      obtain ⟨g, c, rfl⟩ := hP.fv
      have HP := hide hP
      have hsz := (unhide HB).size
      clear hP HP0 HB0
      have hlk : ((L.take k).map (fun h : F4 => ((h.1, h.2.1) : F2))).length = k := by simp; omega
      by_cases hkn : k < L.length
      · obtain ⟨b, o, x, y, z, p, rfl, hx, hy, _, _, EX⟩ := recHAt (unhide HC) hkn
        have g0 := ((unhide HB).cell (lt_of_cell hx)).trans hx
        have g1 := ((unhide HB).cell (lt_of_cell hy)).trans hy
        have ET : Hid ((L.take (k + 1)).map (fun h : F4 => ((h.1, h.2.1) : F2)) = (L.take k).map (fun h => (h.1, h.2.1)) ++ [(x, y)]) := by show _ = _; rw [take_snoc L hkn, List.map_append, unhide EX]; rfl
        have hki : (k : Int) < L.length := by omega
        clear hx hy EX
        generalize (L.take k).map (fun h : F4 => ((h.1, h.2.1) : F2)) = P at *
        rw [hlk]
        have HLK := hide hlk
        have HR1 := hide (ownsRow_below (unhide HP).row (Below.alloc1 wr (.cells #[.float .f64 x, .float .f64 y] 37)))
        rw [hlk] at HR1
        clear hlk
        go_wp2_with (at_builtin; refine wpList_append_lies _ rfl _ _ 91 rfl w.heap.size 37 i1 _ 2 16 Try.underlying91 hi' hy0 hy1 hy2 rfl (by decide) _ k _ rfl (unhide HR1) ⟨wr.heap.size, 0, none⟩ 1 1 [.float .f64 x, .float .f64 y] rfl rfl (cell_two_new _ _ _ _) (by simp [Value.oneCell']) (by omega) (by unfold maxLen; omega) (by omega) (by simp; omega) _ rfl ?_; intro g1' cap1 wa hown hgrow hat hlt; have HWa := hide (((unhide HB).alloc (by omega) (.cells #[.float .f64 x, .float .f64 y] 37)).grown hgrow (by simp; omega) (fun g hg => ((unhide HP).row.lt g hg).1)); have HOW := hide hown; clear hown hgrow hat)
        go_roundg (L.length - (k + 1))
        case measure => omega
        case rel =>
          refine ⟨k + 1, by omega, rfl, by go_num, ?_, HWa⟩
          rw [unhide ET]
          have hk1 := unhide HLK
          subst hk1
          exact PhR.next (unhide HOW)
      · have hkk : k = L.length := by omega
        subst hkk
        rw [hlk]
        have hPa := unhide HP
        rw [hlk, List.take_length] at hPa
        have HT0 : Hid (TdS w (wr.alloc (.cells #[] 25)) (.slice (some ⟨g, 0, none⟩) L.length c) (.slice (some ⟨wr.heap.size, 0, none⟩) 0 0) (L.map (fun h => (h.1, h.2.1))) []) :=
          ⟨hPa.step (Below.alloc1 _ _), growF_new w wr (unhide HB), fun q h1 h2 => by
            simp only [Value.ownBlock, Option.some.injEq] at h1 h2
            have := (hPa.row.lt g rfl).2
            omega⟩
        clear HP hlk hPa HB hk hkn
        generalize wr = w1 at *
        go_wp2
        go_loopg [10, 11] N (fun q ov iv wr => ∃ i : Nat, i ≤ N ∧ q = N - i ∧ iv = .int .i64 i ∧ ∃ P, Hid (phOk L i 0 P) ∧ Hid (TdS w wr (.slice (some ⟨g, 0, none⟩) L.length c) ov P ((List.range i).map (fun i => heightTo L mean i L.length))))
        case atStart => exact ⟨0, Nat.zero_le _, rfl, rfl, _, phOk_start L, HT0⟩
        case round =>
          clear HT0
          obtain ⟨i, hiN, rfl, rfl, P, HPH, HT⟩ := hrel
          obtain ⟨go, co, rfl⟩ := (unhide HT).o.fv
          have hlm : ((List.range i).map (fun i => heightTo L mean i L.length)).length = i := by simp
          by_cases hin : i < N
          · have ER : Hid ((List.range (i + 1)).map (fun i => heightTo L mean i L.length) = (List.range i).map (fun i => heightTo L mean i L.length) ++ [heightTo L mean i L.length]) := by show _ = _; rw [List.range_succ, List.map_append]; rfl
            generalize (List.range i).map (fun i => heightTo L mean i L.length) = M at *
            rw [hlm] at HT ⊢
            have HLM := hide hlm
            have hii : (i : Int) < N := by omega
            clear hlm
            generalize wr = w2 at *
            go_wp2
            go_loopg [12, 13] L.length (fun q xv kv wr => ∃ k : Nat, k ≤ L.length ∧ q = L.length - k ∧ kv = .int .i64 k ∧ ∃ x P, xv = .float .f64 x ∧ fsame .f64 x (heightTo L mean i k) ∧ Hid (phOk L i k P) ∧ Hid (TdS w wr (.slice (some ⟨g, 0, none⟩) L.length c) (.slice (some ⟨go, 0, none⟩) i co) P M))
            case atStart => exact ⟨0, Nat.zero_le _, rfl, rfl, mean, P, rfl, fsame.refl _ _, HPH, HT⟩
            case round =>
              clear HPH HT
              obtain ⟨k, hk, rfl, rfl, x, P, rfl, hx, HPH, HT⟩ := hrel
              by_cases hkn : k < L.length
              · obtain ⟨b, o, x', y', z, p, rfl, _, _, hz, hp, EX⟩ := recHAt (unhide HC) hkn
                have t0 := ((unhide HT).o.below.cell (lt_of_cell hz)).trans hz
                have t1 := ((unhide HT).o.below.cell (lt_of_cell hp)).trans hp
                have hlz := lt_of_cell hz
                have HPL := hide (unhide HPH).1
                have hkP : k < P.length := by rw [unhide HPL]; exact hkn
                have HT' : Hid (TdS w wr (.slice (some ⟨g, 0, none⟩) P.length c) (.slice (some ⟨go, 0, none⟩) i co) P M) := by show TdS _ _ _ _ _ _; rw [unhide HPL]; exact unhide HT
                obtain ⟨a, hb, EP⟩ : ∃ a b', P.getD k default = (a, b') := ⟨_, _, rfl⟩
                obtain ⟨c0, c1, cf⟩ := (unhide HT').p.cells hkP
                rw [EP] at c0 c1
                dsimp only at c0 c1
                have hfx : fsame .f64 a (phaseAt (L.getD k default) i).1 := by have := ((unhide HPH).2 k hkn).1; rw [EP, if_neg (by omega)] at this; exact this
                have HTM := hide fun V => specTimes_any a hb z p V
                unfold vW at HTM
                have HNX := hide fun r s hr hs => (unhide HPH).next (r := r) (s := s) hkn (unhide EX) EP hr hs
                have hki : (k : Int) < L.length := by omega
                have HFX := hide hfx
                clear hz hp EP EX HT HPH hfx
                go_wp2_with (refine wpList_float rfl .add _ _ _ _ rfl rfl .f64 x a rfl rfl ?_; intro r1 n1 hr1)
                obtain ⟨V1, ev1⟩ : ∃ q, q = wr.drewN n1 := ⟨_, rfl⟩
                rw [← ev1]
                replace HT' : Hid (TdS w V1 (.slice (some ⟨g, 0, none⟩) P.length c) (.slice (some ⟨go, 0, none⟩) i co) P M) := by show TdS _ _ _ _ _ _; rw [ev1]; exact (unhide HT').step (below_drewN (Below.refl _ _) _)
                replace c0 : V1.cell? ⟨g, k * 2, none⟩ = some (.float .f64 a) := by rw [ev1]; exact c0
                replace c1 : V1.cell? ⟨g, k * 2 + 1, none⟩ = some (.float .f64 hb) := by rw [ev1]; exact c1
                replace t0 : V1.cell? ⟨b, o + k * 4 + 2, none⟩ = some (.float .f64 z) := by rw [ev1]; exact t0
                replace t1 : V1.cell? ⟨b, o + k * 4 + 3, none⟩ = some (.float .f64 p) := by rw [ev1]; exact t1
                clear ev1 cf
                go_wp2
                go_region_with (go_at_call 59; refine (unhide HTM _).mono ?_; rintro e w3 ⟨r, s', rfl, hr, hs, hb1⟩; have HT3 := hide (show TdS w w3 (.slice (some ⟨g, 0, none⟩) P.length c) (.slice (some ⟨go, 0, none⟩) i co) P M from (unhide HT').step ⟨hb1.os, hb1.tape, hb1.output, hb1.size, hb1.block⟩); obtain ⟨q0, q1, qf⟩ := (unhide HT3).p.cells hkP; clear hb1)
                all_goals
                  go_wp2
                  go_roundg (L.length - (k + 1))
                  case measure => omega
                  case rel => exact ⟨k + 1, by omega, rfl, by go_num, r1, _, rfl, fop_to hr1 hx (unhide HFX), unhide HNX r s' hr hs, by show TdS _ _ _ _ _ _; rw [← unhide HPL]; exact (unhide HT3).put hkP _ _⟩
              · have hkk : k = L.length := by omega
                subst hkk
                obtain ⟨ys, hys, hrow⟩ := (unhide HT).o.row
                have hsz := (unhide HT).o.below.size
                rw [unhide HLM] at hrow
                have HR := hide hrow
                have HY := hide hys
                have HR1 := hide (ownsRow_below (unhide HR) (Below.alloc1 wr (.cells #[.float .f64 x] 25)))
                have hki : (L.length : Int) ≤ L.length := Int.le_refl _
                clear hrow hys
                go_wp2_with (at_builtin; refine wpList_append_lies _ rfl _ _ 24 rfl w.heap.size 25 i0 _ 1 8 Try.underlying24 hi hz0 hz1 hz2 rfl (by decide) _ i _ rfl (unhide HR1) ⟨wr.heap.size, 0, none⟩ 1 1 [.float .f64 x] rfl rfl (cell_one_new _ _ _) (by simp [Value.oneCell']) (by omega) (by unfold maxLen; omega) (by omega) (by simp; omega) _ rfl ?_; intro g5 cap5 wa hown hgrow hat hlt; have HWa := hide (((unhide HT).o.below.alloc (by omega) (.cells #[.float .f64 x] 25)).grown hgrow (by simp; omega) (fun g hg => ((unhide HR).lt g hg).1)); have HOW := hide hown; have HPa := hide (row_keep (ownsRow_below (unhide HT).p.row (Below.alloc1 wr (.cells #[.float .f64 x] 25))) hgrow (unhide HT).ne); have HNa := hide (row_ne (ownsRow_below (unhide HT).p.row (Below.alloc1 wr (.cells #[.float .f64 x] 25))) (unhide HT).ne hat); clear hown hgrow hat)
                go_roundg (N - (i + 1))
                case measure => omega
                case rel =>
                  have hl2 := unhide HLM
                  refine ⟨i + 1, by omega, rfl, by go_num, P, (unhide HPH).turn, ?_⟩
                  show TdS _ _ _ _ _ _
                  rw [unhide ER]
                  refine ⟨⟨unhide HPa, (unhide HT).p.fv⟩, ?_, fun q h1 h2 => ?_⟩
                  · rw [List.length_append, hl2]
                    have hoG := (unhide HT).o
                    rw [hl2] at hoG
                    exact hoG.next (unhide HY) hx (unhide HOW) (unhide HWa)
                  · simp only [Value.ownBlock, Option.some.injEq] at h1
                    subst h1
                    exact unhide HNa h2
          · have hiN' : i = N := by omega
            have hoG := (unhide HT).o
            have HO := hide hoG.done
            have HB := hide hoG.below
            rw [hlm] at HO ⊢
            rw [hiN', ← unhide HF] at HO
            rw [hiN']
            have hii : (N : Int) ≤ N := Int.le_refl _
            clear hoG HT HPH hlm
            go_wp2
            refine bodyPost_ret (v := .tuple #[.slice (some ⟨go, 0, none⟩) N co, .bool true]) (by simp [results, Try.results22, go_sem]) rfl ⟨_, _, _, rfl, unhide HO, unhide HB⟩

end Go.Proofs.Ytglehiakikhlaaa
