/- FnRaised: whatever the bytes, a drawn mass that is moved upwards never makes the metacentre higher. -/
import Derived.Test.YtmbbhelkmbbobaaRaA
import Derived.Test.YtmbbhelkmbbobaaAtBig
import Derived.ArgAppend
import Derived.Deep.RegionWith
namespace Go.Proofs.Ytmbbhelkmbbobaa
open Go.RowKit

/-- The three masses of the law. -/
abbrev mass3 (p q r t : Int) : List I3 := [(5, 0, 1), (p, q, r), (3, 0, t)]

theorem mass3_cells (p q r t : Int) : recCells 3 e3 (mass3 p q r t) = [.int .i64 5, .int .i64 0, .int .i64 1, .int .i64 p, .int .i64 q, .int .i64 r, .int .i64 3, .int .i64 0, .int .i64 t] := by
  simp [recCells, List.range_succ, e3]

theorem mass3_ok {p q r t : Int} (hp : 0 ≤ p ∧ p < 30) (hq : 0 ≤ q ∧ q < 9) (hr : 0 ≤ r ∧ r < 30) (ht : 0 ≤ t ∧ t < 5) : massesB (mass3 p q r t) = true := by
  simp [massesB, massB, inB]
  omega

theorem mass3_load {p q r t : Int} (h : massesB (mass3 p q r t) = true) : load (mass3 p q r t) = (5 + p + 3, p * q, 5 + p * r + 3 * t) := by
  rw [load, if_pos h]
  simp only [loadTo, sumTo, wF, xF, zF, mass3, List.length_cons, List.length_nil, List.getD_cons_zero, List.getD_cons_succ]
  simp

theorem metaB_none {step rise : Int} {R : List (List Int)} {c : Int} {L : List I3} (h1 : massesB L = true) (h2 : (load L).1 ≠ 0) : metaB step rise R c L [] = decide (volume step rise R c ≠ 0) := by
  unfold metaB
  rw [h1]
  simp [h2, tanksB]

theorem lowV_bd {N D : Int} (hD : 0 < D) : (lowV N D).1.natAbs ≤ N.natAbs ∧ 0 < (lowV N D).2 ∧ (lowV N D).2 ≤ D := by
  obtain ⟨g1, g2⟩ := gcd_range (num := N) hD
  exact ⟨tdiv_abs N _, (low_cross hD).2, Int.ediv_le_self _ (Int.le_of_lt hD)⟩

/-- What the law asks of the two metacentres. -/
theorem raised_all {step rise : Int} {R : List (List Int)} {c : Int} {L1 L2 : List I3} {Wt X1 Z1 Z2 K : Int} {N1 D1 N2 D2 : Int} (hdr : drawnHull step rise R) (hM1 : massesB L1 = true) (hM2 : massesB L2 = true)
    (h1 : load L1 = (Wt, X1, Z1)) (h2 : load L2 = (Wt, X1, Z2)) (hK : Z2 - Z1 = K) (hK0 : 0 ≤ K) (hWt : 8 ≤ Wt ∧ Wt ≤ 37) (hZ1 : 0 ≤ Z1 ∧ Z1 ≤ 400) (hK1 : K ≤ 200) (hV : volume step rise R c ≠ 0)
    (e1 : (N1, D1) = metaV step rise R c L1 []) (e2 : (N2, D2) = metaV step rise R c L2 []) :
    (0 < D1 ∧ D1 ≤ 1000000000 ∧ 0 < D2 ∧ D2 ≤ 1000000000) ∧ (-1000000000000000 ≤ N1 ∧ N1 ≤ 1000000000000000 ∧ -1000000000000000 ≤ N2 ∧ N2 ≤ 1000000000000000) ∧ lessB (N1, D1) (N2, D2) = false ∧ ((N1, D1) = (N2, D2) → K = 0) := by
  have b1 : metaB step rise R c L1 [] = true := by rw [metaB_none hM1 (by rw [h1]; dsimp only; omega)]; simpa using hV
  have b2 : metaB step rise R c L2 [] = true := by rw [metaB_none hM2 (by rw [h2]; dsimp only; omega)]; simpa using hV
  rw [metaV, if_pos b1, metaNum, metaDen, h1] at e1
  rw [metaV, if_pos b2, metaNum, metaDen, h2] at e2
  dsimp only at e1 e2
  have hv1 := volume_drawn hdr c
  have hv0 := (volume_bd step rise R c).1
  have hH := height_bd step rise R c
  have hI := inertia_bd step rise R c
  rw [show surf [] = 0 from rfl] at e1 e2
  generalize volume step rise R c = V at *
  generalize height step rise R c = H at *
  generalize inertia step rise R c = I at *
  have p1 := prod_bd (a := 3 * H + 4 * I - 0) (b := Wt) (A := 70000000000) (B := 37) (by omega) (by omega) (by omega) hWt.2
  have p2 := prod_bd (a := 6 * V) (b := Z1) (A := 7920000) (B := 400) (by omega) (by omega) hZ1.1 hZ1.2
  have p3 := prod_bd (a := 6 * V) (b := Z2) (A := 7920000) (B := 600) (by omega) (by omega) (by omega) (by omega)
  have p4 := prod_bd (a := 6 * V) (b := Wt) (A := 7920000) (B := 37) (by omega) (by omega) (by omega) hWt.2
  have p5 : 0 < 6 * V * Wt := Int.mul_pos (by omega) (by omega)
  have p6 : 6 * V * Z2 - 6 * V * Z1 = 6 * V * K := by rw [← Int.mul_sub, hK]
  have p7 : 0 ≤ 6 * V * K := Int.mul_nonneg (by omega) hK0
  have p8 : 6 * V * K = 0 → K = 0 := fun h => by
    rcases Int.mul_eq_zero.1 h with h | h
    · omega
    · exact h
  generalize (3 * H + 4 * I - 0) * Wt = A at *
  generalize 6 * V * Z1 = B1 at *
  generalize 6 * V * Z2 = B2 at *
  generalize 6 * V * K = BK at *
  generalize 6 * V * Wt = D at *
  have q1 := lowV_bd (N := A - B1) p5
  have q2 := lowV_bd (N := A - B2) p5
  have r1 := raised_not_less (N1 := A - B1) (N2 := A - B2) p5 (by omega)
  have r2 : (N1, D1) = (N2, D2) → K = 0 := fun h => by
    rw [e1, e2] at h
    have := raised_other p5 h
    exact p8 (by omega)
  rw [← e1] at q1 r1
  rw [← e2] at q2 r1
  dsimp only at q1 q2
  exact ⟨⟨q1.2.1, by omega, q2.2.1, by omega⟩, ⟨by omega, by omega, by omega, by omega⟩, r1, r2⟩

theorem neq_frac (n d N D : Int) (w : World) : (binOp .neq 34 (.agg #[.int .i64 n, .int .i64 d]) (.agg #[.int .i64 N, .int .i64 D])).run Try.prog w = .ok (.bool (!((n == N) && (d == D)))) w := by
  rw [run_neq_struct, run_equalIn_agg _ _ _ _ _ (by rw [Program.fieldsOf, Try.underlying34]) Try.heldFrac]
  simp [go_sem, Program.fieldsOf, Try.underlying34, Try.underlying3]
  by_cases h1 : n = N <;> by_cases h2 : d = D <;> simp [h1, h2]

set_option maxHeartbeats 6400000 in
theorem fnRaised_any (v : Value) (nb : Nat) (w : World) (h : BytesIn w.heap.size w v nb) :
    Calls Try.prog 3 #[v] w fun e w' => e = .returned (.bool true) ∧ Below w.heap.size w w' := by
  have HB := hide h
  obtain ⟨vao, vcap, rfl, hl, hm, _⟩ := h
  unfold maxLen at hm
  by_cases hbig : (1048576 : Int) < (nb : Int)
  · go_enter Try.func3, Try.ntmps3
    go_wp2_with fail
    refine (big_any _ _ _ _).mono ?_
    rintro e w' ⟨rfl, rfl⟩
    go_wp2
    go_ret
    exact ⟨rfl, Below.refl _ _⟩
  have hn : nb ≤ 1048576 := by omega
  go_enter Try.func3, Try.ntmps3
  go_wp2_with fail
  refine (big_any _ _ _ _).mono ?_
  rintro e w' ⟨rfl, rfl⟩
  go_wp2_with fail
  refine (drawRightHull_any _ nb w (unhide HB) hn).mono ?_
  rintro e w1 ⟨step, rise, R, ao, n, cap, x, rfl, hR, hok, hx0, hx1, hb⟩
  obtain ⟨ao', cap', ev, _, _, _⟩ := id hR
  simp only [Value.slice.injEq] at ev
  obtain ⟨rfl, rfl, rfl⟩ := ev
  have A2 := Below.alloc1 w1 (.cells #[.int .i64 step, .int .i64 rise, .slice ao R.length cap] 26)
  have HX := hide (ownV_alloc w1 #[.int .i64 step, .int .i64 rise, .slice ao R.length cap] 26)
  have HR0 := hide hR
  have HZ := hide A2
  have zw := hb.size
  have HW := hide (Below.step hb A2)
  have HOK := hide hok
  obtain ⟨W2, eW2⟩ : ∃ W, W = w1.alloc (.cells #[.int .i64 step, .int .i64 rise, .slice ao R.length cap] 26) := ⟨_, rfl⟩
  rw [← eW2] at HX HZ HW
  have HA := hide fun (k : Nat) (hk : k ≤ 1000) => at_any _ nb w.heap.size k W2 ((unhide HB).below (unhide HW) (Nat.le_refl _)) hn hk
  clear hR hb A2 hok hx0 hx1
  go_wp2_with fail
  rw [← eW2]
  clear eW2
  refine (unhide HA 4 (by omega)).mono ?_
  rintro e w' ⟨y4, rfl, y40, y41, rfl⟩
  go_wp2_with fail
  refine (unhide HA 5 (by omega)).mono ?_
  rintro e w' ⟨y5, rfl, y50, y51, rfl⟩
  go_wp2_with fail
  refine (unhide HA 6 (by omega)).mono ?_
  rintro e w' ⟨y6, rfl, y60, y61, rfl⟩
  go_wp2_with fail
  refine (unhide HA 7 (by omega)).mono ?_
  rintro e w' ⟨y7, rfl, y70, y71, rfl⟩
  clear HA
  have c0 := OwnV.cell (unhide HX) (i := 0) rfl
  have c1 := OwnV.cell (unhide HX) (i := 1) rfl
  have c2 := OwnV.cell (unhide HX) (i := 2) rfl
  have hzx := (unhide HX).lt
  have hp : 0 ≤ y4 % 30 ∧ y4 % 30 < 30 := by omega
  have hq : 0 ≤ y5 % 9 ∧ y5 % 9 < 9 := by omega
  have hr : 0 ≤ y6 % 12 ∧ y6 % 12 < 12 := by omega
  have ht : 0 ≤ y7 % 5 ∧ y7 % 5 < 5 := by omega
  go_wp2_with fail
  clear c0 c1 c2
  generalize y4 % 30 = p at *
  generalize y5 % 9 = q at *
  generalize y6 % 12 = r at *
  generalize y7 % 5 = t at *
  clear y40 y41 y50 y51 y60 y61 y70 y71
  have A3 := Below.alloc1 W2 (.cells #[.int .i64 5, .int .i64 0, .int .i64 1, .int .i64 p, .int .i64 q, .int .i64 r, .int .i64 3, .int .i64 0, .int .i64 t] 30)
  have HL : Hid (OwnV (W2.alloc (.cells #[.int .i64 5, .int .i64 0, .int .i64 1, .int .i64 p, .int .i64 q, .int .i64 r, .int .i64 3, .int .i64 0, .int .i64 t] 30)) W2.heap.size (recCells 3 e3 (mass3 p q r t))) := by
    show OwnV _ _ _
    rw [mass3_cells]
    exact ownV_alloc W2 #[.int .i64 5, .int .i64 0, .int .i64 1, .int .i64 p, .int .i64 q, .int .i64 r, .int .i64 3, .int .i64 0, .int .i64 t] _
  replace HX := hide (OwnV.step (unhide HX) A3)
  replace HZ := hide (Below.step (unhide HZ) A3)
  replace HW := hide (Below.step (unhide HW) A3)
  have hM1 := mass3_ok hp hq ⟨hr.1, by omega⟩ ht
  have HM1 := hide hM1
  have HD1 := hide (mass3_load hM1)
  clear A3 hM1
  have H3 : Hid (R3 (W2.alloc (.cells #[.int .i64 5, .int .i64 0, .int .i64 1, .int .i64 p, .int .i64 q, .int .i64 r, .int .i64 3, .int .i64 0, .int .i64 t] 30)) (.slice (some ⟨W2.heap.size, 0, none⟩) 3 3) (mass3 p q r t)) := OwnV.recsIn (unhide HL) (Nat.le_refl _) (by show 3 ≤ maxLen; unfold maxLen; omega)
  refine (implMetacentre_any step rise _ R x _ (mass3 p q r t) _ [] _ ((unhide HR0).below (unhide HZ)) (unhide H3) recsIn_nil).mono ?_
  rintro e w3 ⟨rfl, hb⟩
  replace HX := hide (OwnV.step (unhide HX) hb)
  replace HZ := hide (Below.step (unhide HZ) hb)
  replace HW := hide (Below.step (unhide HW) hb)
  replace HL := hide (OwnV.step (unhide HL) hb)
  have z3 : W2.heap.size + 1 ≤ w3.heap.size := by have := hb.size; simpa using this
  clear hb H3
  obtain ⟨b1, eb1⟩ : ∃ b, b = metaB step rise R x (mass3 p q r t) [] := ⟨_, rfl⟩
  obtain ⟨⟨N1, D1⟩, ev1⟩ : ∃ X, X = metaV step rise R x (mass3 p q r t) [] := ⟨_, rfl⟩
  rw [← eb1, ← ev1]
  have EB1 := hide eb1
  have EV1 := hide ev1
  clear eb1 ev1
  have A4 := Below.alloc1 w3 (.cells #[.int .i64 N1, .int .i64 D1] 34)
  have HF1 := hide (ownV_alloc w3 #[.int .i64 N1, .int .i64 D1] 34)
  replace HX := hide (OwnV.step (unhide HX) A4)
  replace HZ := hide (Below.step (unhide HZ) A4)
  replace HW := hide (Below.step (unhide HW) A4)
  replace HL := hide (OwnV.step (unhide HL) A4)
  clear A4
  go_wp2_with fail
  refine (implLoadOf_any _ (mass3 p q r t) _ (OwnV.recsIn (unhide HL) (Nat.le_refl _) (by show 3 ≤ maxLen; unfold maxLen; omega))).mono ?_
  rintro e w4 ⟨rfl, hb⟩
  replace HX := hide (OwnV.step (unhide HX) hb)
  replace HZ := hide (Below.step (unhide HZ) hb)
  replace HW := hide (Below.step (unhide HW) hb)
  replace HL := hide (OwnV.step (unhide HL) hb)
  replace HF1 := hide (OwnV.step (unhide HF1) hb)
  have z4 : w3.heap.size + 1 ≤ w4.heap.size := by have := hb.size; simpa using this
  clear hb
  obtain ⟨Wt, eWt⟩ : ∃ x, x = 5 + p + 3 := ⟨_, rfl⟩
  obtain ⟨X1, eX1⟩ : ∃ x, x = p * q := ⟨_, rfl⟩
  obtain ⟨Z1, eZ1⟩ : ∃ x, x = 5 + p * r + 3 * t := ⟨_, rfl⟩
  rw [← eWt, ← eX1, ← eZ1] at HD1
  rw [unhide HD1, unhide HM1]
  have EWt := hide eWt
  have EX1 := hide eX1
  have EZ1 := hide eZ1
  clear eWt eX1 eZ1
  have A5 := Below.alloc1 w4 (.cells #[.int .i64 Wt, .int .i64 X1, .int .i64 Z1] 38)
  have HD := hide (ownV_alloc w4 #[.int .i64 Wt, .int .i64 X1, .int .i64 Z1] 38)
  replace HX := hide (OwnV.step (unhide HX) A5)
  replace HZ := hide (Below.step (unhide HZ) A5)
  replace HW := hide (Below.step (unhide HW) A5)
  replace HL := hide (OwnV.step (unhide HL) A5)
  replace HF1 := hide (OwnV.step (unhide HF1) A5)
  clear A5
  have A6 := Below.alloc1 (w4.alloc (.cells #[.int .i64 Wt, .int .i64 X1, .int .i64 Z1] 38)) (.cells #[] 30)
  replace HX := hide (OwnV.step (unhide HX) A6)
  replace HZ := hide (Below.step (unhide HZ) A6)
  replace HW := hide (Below.step (unhide HW) A6)
  replace HL := hide (OwnV.step (unhide HL) A6)
  replace HF1 := hide (OwnV.step (unhide HF1) A6)
  replace HD := hide (OwnV.step (unhide HD) A6)
  clear A6
  obtain ⟨W6, eW6⟩ : ∃ W, W = (w4.alloc (.cells #[.int .i64 Wt, .int .i64 X1, .int .i64 Z1] 38)).alloc (.cells #[] 30) := ⟨_, rfl⟩
  rw [← eW6] at HX HZ HW HL HF1 HD
  have z6 : w4.heap.size + 1 + 1 ≤ W6.heap.size := by rw [eW6]; simp
  have EW6 := hide eW6
  obtain ⟨i0, hi, hi0, hi1, hi2⟩ := info_parts Try.infoMass
  have HC : Hid (∀ j u, (recCells 3 e3 (mass3 p q r t))[j]? = some u → W6.cell? ((⟨W2.heap.size, 0, none⟩ : Addr).add j) = some u) := fun j u hu => by
    rw [Go.WideShapes.add_plain, Nat.zero_add]
    exact OwnV.cell (unhide HL) hu
  have H1 : Hid (∀ u ∈ recCells 3 e3 (mass3 p q r t), u.oneCell' = true) := fun u hu => by
    rw [mass3_cells] at hu
    simp only [List.mem_cons, List.not_mem_nil, or_false] at hu
    rcases hu with rfl | rfl | rfl | rfl | rfl | rfl | rfl | rfl | rfl <;> rfl
  have HG : Hid (∀ v' w', w'.ownsRow (w4.heap.size + 1 + 1) 30 3 v' 3 (recCells 3 e3 (mass3 p q r t)) → ∃ g cap5, v' = .slice (some ⟨g, 0, none⟩) 3 cap5 ∧ w4.heap.size + 1 + 1 ≤ g ∧ 3 ≤ cap5 ∧ cap5 ≤ maxLen ∧ OwnV w' g (recCells 3 e3 (mass3 p q r t))) := fun v' w' ho => by
    obtain ⟨_, h2⟩ := ho
    rcases h2 with ⟨_, h0⟩ | ⟨g, cap5, cur, hv, hg, hh, hc, hm', hs, ht⟩
    · omega
    · refine ⟨g, cap5, by simpa using hv, hg, by omega, hm', cur, _, hh, fun i hi => ?_⟩
      have e : cur.toList.take 9 = recCells 3 e3 (mass3 p q r t) := by simpa using ht
      rw [← e]
      rw [recCells_length] at hi
      rw [List.getElem?_take, if_pos (by exact hi)]
      simp
  rw [eW6] at HC
  clear eW6
  go_wp2_with (at_builtin; refine wpList_append_grows _ rfl _ _ 32 rfl 30 i0 (v3 (0, 0, 0)) 3 24 Try.underlying32 hi hi0 hi1 hi2 rfl (by decide) (some ⟨w4.heap.size + 1, 0, none⟩) 0 0 [] ?q1 (fun e => by cases e) rfl (fun _ _ j u hu => by simp at hu) ⟨W2.heap.size, 0, none⟩ 3 3 (recCells 3 e3 (mass3 p q r t)) ?q2 (by rw [recCells_length]; rfl) (unhide HC) (unhide H1) (by omega) (by unfold maxLen; omega) (by omega) ?_)
  case q1 => rfl
  case q2 => rfl
  intro v' w7 hown hgrow
  rw [← unhide EW6] at hgrow
  have hb : Below W6.heap.size W6 w7 := (Below.refl _ _).grown hgrow (Nat.le_refl _) (fun k hk => by cases hk)
  obtain ⟨g, cap5, rfl, hg, hcap5, hcap5', hU⟩ := unhide HG v' w7 hown
  replace HX := hide (OwnV.step (unhide HX) hb)
  replace HZ := hide (Below.step (unhide HZ) hb)
  replace HW := hide (Below.step (unhide HW) hb)
  replace HL := hide (OwnV.step (unhide HL) hb)
  replace HF1 := hide (OwnV.step (unhide HF1) hb)
  replace HD := hide (OwnV.step (unhide HD) hb)
  have HU := hide hU
  have z7 := hb.size
  clear hb hU hown hgrow HG HC H1 EW6 hi hi0 hi1 hi2
  unfold maxLen at hcap5'
  have HT := hide (at_any _ nb w.heap.size 8 w7.drew ((unhide HB).below (unhide HW).drew (Nat.le_refl _)) hn (by omega))
  have u5 : w7.drew.cell? ⟨g, 5, none⟩ = some (.int .i64 r) := OwnV.cell (OwnV.drew (unhide HU)) (by rw [mass3_cells]; rfl)
  have f5 := OwnV.frozen (OwnV.drew (unhide HU))
  have k1 : IntKind.i64.wrap (r + 1) = r + 1 := by rw [IntKind.wrap_i64]; omega
  go_wp2
  go_region_with (first | (go_at_call 14; refine (unhide HT).mono ?_; rintro e w' ⟨y8, rfl, y80, y81, rfl⟩; have k8 : 0 ≤ y8.tmod 4 ∧ y8.tmod 4 < 4 := (by have := Int.tmod_nonneg 4 y80; have := Int.tmod_lt_of_pos y8 (show (0 : Int) < 4 by omega); omega); have k2 : IntKind.i64.wrap (r + 1 + y8.tmod 4) = r + 1 + y8.tmod 4 := (by rw [IntKind.wrap_i64]; omega)))
  all_goals
    generalize y8.tmod 4 = d at *
    clear k1 k2 y80 y81 HT u5 f5
    have hk : Kept (fun b => b = g) w7 ((w7.setCell ⟨g, 5, none⟩ (.int .i64 (r + 1 + d))).drew) := ((Kept.refl (fun b => b = g) w7).setCell (p := ⟨g, 5, none⟩) rfl _).trans (kept_of_below (Below.refl _ _).drew)
    have hU : OwnV ((w7.setCell ⟨g, 5, none⟩ (.int .i64 (r + 1 + d))).drew) g (recCells 3 e3 (mass3 p q (r + 1 + d) t)) := by
      have h := (unhide HU).set 5 (.int .i64 (r + 1 + d)) (by rw [mass3_cells]; simp)
      rw [mass3_cells] at h
      rw [mass3_cells]
      exact h.drew
    obtain ⟨w8, e8⟩ : ∃ x, x = (w7.setCell ⟨g, 5, none⟩ (.int .i64 (r + 1 + d))).drew := ⟨_, rfl⟩
    rw [← e8] at hk hU ⊢
    clear e8
    replace HX := hide (OwnV.kept (unhide HX) hk (fun e => by omega))
    replace HL := hide (OwnV.kept (unhide HL) hk (fun e => by omega))
    replace HF1 := hide (OwnV.kept (unhide HF1) hk (fun e => by omega))
    replace HD := hide (OwnV.kept (unhide HD) hk (fun e => by omega))
    replace HZ := hide ((unhide HZ).trans (hk.below (B := w1.heap.size) (by omega) (fun b e => by omega)))
    replace HW := hide ((unhide HW).trans (hk.below (B := w.heap.size) (by omega) (fun b e => by omega)))
    replace HU := hide hU
    have z8 := hk.size
    clear hk hU
    have hM2 := mass3_ok hp hq (show 0 ≤ r + 1 + d ∧ r + 1 + d < 30 by omega) ht
    have HM2 := hide hM2
    have HD2 := hide (mass3_load hM2)
    clear hM2
    have c0 := OwnV.cell (unhide HX) (i := 0) rfl
    have c1 := OwnV.cell (unhide HX) (i := 1) rfl
    have c2 := OwnV.cell (unhide HX) (i := 2) rfl
    have H3 : Hid (R3 w8 (.slice (some ⟨g, 0, none⟩) 3 cap5) (mass3 p q (r + 1 + d) t)) := OwnV.recsIn (unhide HU) hcap5 (by unfold maxLen; exact hcap5')
    go_wp2_with fail
    clear c0 c1 c2
    refine (implMetacentre_any step rise _ R x _ (mass3 p q (r + 1 + d) t) _ [] _ ((unhide HR0).below (unhide HZ)) (unhide H3) recsIn_nil).mono ?_
    rintro e w9 ⟨rfl, hb⟩
    replace HX := hide (OwnV.step (unhide HX) hb)
    replace HZ := hide (Below.step (unhide HZ) hb)
    replace HW := hide (Below.step (unhide HW) hb)
    replace HL := hide (OwnV.step (unhide HL) hb)
    replace HU := hide (OwnV.step (unhide HU) hb)
    replace HF1 := hide (OwnV.step (unhide HF1) hb)
    replace HD := hide (OwnV.step (unhide HD) hb)
    clear hb H3
    obtain ⟨b2, eb2⟩ : ∃ b, b = metaB step rise R x (mass3 p q (r + 1 + d) t) [] := ⟨_, rfl⟩
    obtain ⟨⟨N2, D2⟩, ev2⟩ : ∃ X, X = metaV step rise R x (mass3 p q (r + 1 + d) t) [] := ⟨_, rfl⟩
    rw [← eb2, ← ev2]
    have EB2 := hide eb2
    have EV2 := hide ev2
    clear eb2 ev2
    have A4 := Below.alloc1 w9 (.cells #[.int .i64 N2, .int .i64 D2] 34)
    have HF2 := hide (ownV_alloc w9 #[.int .i64 N2, .int .i64 D2] 34)
    replace HX := hide (OwnV.step (unhide HX) A4)
    replace HZ := hide (Below.step (unhide HZ) A4)
    replace HW := hide (Below.step (unhide HW) A4)
    replace HL := hide (OwnV.step (unhide HL) A4)
    replace HU := hide (OwnV.step (unhide HU) A4)
    replace HF1 := hide (OwnV.step (unhide HF1) A4)
    replace HD := hide (OwnV.step (unhide HD) A4)
    clear A4
    go_wp2_with fail
    refine (implLoadOf_any _ (mass3 p q (r + 1 + d) t) _ (OwnV.recsIn (unhide HU) hcap5 (by unfold maxLen; exact hcap5'))).mono ?_
    rintro e w10 ⟨rfl, hb⟩
    replace HX := hide (OwnV.step (unhide HX) hb)
    replace HZ := hide (Below.step (unhide HZ) hb)
    replace HW := hide (Below.step (unhide HW) hb)
    replace HL := hide (OwnV.step (unhide HL) hb)
    replace HU := hide (OwnV.step (unhide HU) hb)
    replace HF1 := hide (OwnV.step (unhide HF1) hb)
    replace HF2 := hide (OwnV.step (unhide HF2) hb)
    replace HD := hide (OwnV.step (unhide HD) hb)
    clear hb
    obtain ⟨Z2, eZ2⟩ : ∃ x, x = 5 + p * (r + 1 + d) + 3 * t := ⟨_, rfl⟩
    rw [← unhide EWt, ← unhide EX1, ← eZ2] at HD2
    rw [unhide HD2, unhide HM2]
    have hKk : Z2 - Z1 = p * (1 + d) := by rw [eZ2, unhide EZ1, show r + 1 + d = r + (1 + d) by omega, Int.mul_add]; omega
    have hKb := mul_bd (a := p) (b := 1 + d) (A := 30) (B := 4) hp.1 (by omega) (by omega) (by omega)
    have hZb := mul_bd (a := p) (b := r) (A := 30) (B := 12) hp.1 (by omega) hr.1 (by omega)
    have hZ1 : 0 ≤ Z1 ∧ Z1 ≤ 400 := by rw [unhide EZ1]; omega
    obtain ⟨K, eK⟩ : ∃ K, K = p * (1 + d) := ⟨_, rfl⟩
    rw [← eK] at hKk hKb
    have s1 : IntKind.i64.wrap (Z2 - Z1) = K := by rw [hKk, IntKind.wrap_i64]; omega
    have s2 : IntKind.i64.wrap (r + 1 + d - r) = 1 + d := by rw [IntKind.wrap_i64]; omega
    have s3 : IntKind.i64.wrap (p * (1 + d)) = K := by rw [← eK, IntKind.wrap_i64]; omega
    have EK := hide eK
    have HKk := hide hKk
    clear eK hKk eZ2
    have A5 := Below.alloc1 w10 (.cells #[.int .i64 Wt, .int .i64 X1, .int .i64 Z2] 38)
    have HE := hide (ownV_alloc w10 #[.int .i64 Wt, .int .i64 X1, .int .i64 Z2] 38)
    replace HX := hide (OwnV.step (unhide HX) A5)
    replace HZ := hide (Below.step (unhide HZ) A5)
    replace HW := hide (Below.step (unhide HW) A5)
    replace HL := hide (OwnV.step (unhide HL) A5)
    replace HU := hide (OwnV.step (unhide HU) A5)
    replace HF1 := hide (OwnV.step (unhide HF1) A5)
    replace HF2 := hide (OwnV.step (unhide HF2) A5)
    replace HD := hide (OwnV.step (unhide HD) A5)
    clear A5
    obtain ⟨W11, e11⟩ : ∃ x, x = w10.alloc (.cells #[.int .i64 Wt, .int .i64 X1, .int .i64 Z2] 38) := ⟨_, rfl⟩
    rw [← e11] at HX HZ HW HL HU HF1 HF2 HD HE
    go_wp2
    rw [← e11]
    clear e11
    have l3 := OwnV.cell (unhide HL) (i := 3) (by rw [mass3_cells]; rfl)
    have l5 := OwnV.cell (unhide HL) (i := 5) (by rw [mass3_cells]; rfl)
    have u5 := OwnV.cell (unhide HU) (i := 5) (by rw [mass3_cells]; rfl)
    have d0 := OwnV.cell (unhide HD) (i := 0) rfl
    have d2 := OwnV.cell (unhide HD) (i := 2) rfl
    have g0 := OwnV.cell (unhide HE) (i := 0) rfl
    have g2 := OwnV.cell (unhide HE) (i := 2) rfl
    go_quiet (fail)
    have hb12 : Below W11.heap.size W11 (W11.drewN nq) := below_drewN (Below.refl _ _) nq
    replace HX := hide (OwnV.step (unhide HX) hb12)
    replace HZ := hide (Below.step (unhide HZ) hb12)
    replace HW := hide (Below.step (unhide HW) hb12)
    replace HL := hide (OwnV.step (unhide HL) hb12)
    replace HF1 := hide (OwnV.step (unhide HF1) hb12)
    replace HF2 := hide (OwnV.step (unhide HF2) hb12)
    clear hb12 l3 l5 u5 d0 d2 g0 g2 s1 s2 s3 HU HD HE
    generalize W11.drewN nq = w12 at *
    have c0 := OwnV.cell (unhide HX) (i := 0) rfl
    have c1 := OwnV.cell (unhide HX) (i := 1) rfl
    have c2 := OwnV.cell (unhide HX) (i := 2) rfl
    go_wp2_with fail
    clear c0 c1 c2
    refine (specVolume2_any step rise _ R x _ ((unhide HR0).below (unhide HZ))).mono ?_
    rintro e w13 ⟨rfl, hb⟩
    replace HW := hide (Below.step (unhide HW) hb)
    replace HL := hide (OwnV.step (unhide HL) hb)
    replace HF1 := hide (OwnV.step (unhide HF1) hb)
    replace HF2 := hide (OwnV.step (unhide HF2) hb)
    clear hb HX HZ
    have hWt : 8 ≤ Wt ∧ Wt ≤ 37 := by rw [unhide EWt]; omega
    have e1 : b1 = decide (volume step rise R x ≠ 0) := by rw [unhide EB1]; exact metaB_none (unhide HM1) (by rw [unhide HD1]; dsimp only; omega)
    have e2 : b2 = decide (volume step rise R x ≠ 0) := by rw [unhide EB2]; exact metaB_none (unhide HM2) (by rw [unhide HD2]; dsimp only; omega)
    by_cases hV : volume step rise R x = 0
    · have f1 : b1 = false := by rw [e1]; simpa using hV
      have f2 : b2 = false := by rw [e2]; simpa using hV
      subst f1 f2
      rw [hV]
      clear e1 e2
      go_wp2
      go_ret
      exact ⟨rfl, unhide HW⟩
    · have f1 : b1 = true := by rw [e1]; simpa using hV
      have f2 : b2 = true := by rw [e2]; simpa using hV
      obtain ⟨⟨q1, q2, q3, q4⟩, ⟨q5, q6, q7, q8⟩, hls, hne⟩ := raised_all (unhide HOK) (unhide HM1) (unhide HM2) (unhide HD1) (unhide HD2) (unhide HKk) hKb.1 hWt hZ1 (by omega) hV (unhide EV1) (unhide EV2)
      subst f1 f2
      have HLS := hide hls
      have HNE := hide hne
      clear e1 e2 hls hne
      have l3 := OwnV.cell (unhide HL) (i := 3) (by rw [mass3_cells]; rfl)
      have m0 := OwnV.cell (unhide HF1) (i := 0) rfl
      have m1 := OwnV.cell (unhide HF1) (i := 1) rfl
      have m2 := OwnV.cell (unhide HF2) (i := 0) rfl
      have m3 := OwnV.cell (unhide HF2) (i := 1) rfl
      have gd1 : decide (0 < D1) = true := by simpa using q1
      have gd2 : decide (0 < D2) = true := by simpa using q3
      generalize volume step rise R x = V at *
      have hVz : (V == 0) = false := by simp [hV]
      go_wp2_with fail
      clear m0 m1 m2 m3 l3 gd1 gd2 hVz
      refine (less_any N1 D1 N2 D2 _ q5 q6 q1 q2 q7 q8 q3 q4).mono ?_
      rintro e w14 ⟨rfl, hb⟩
      rw [unhide HLS]
      replace HW := hide (Below.step (unhide HW) hb)
      have l3 := OwnV.cell (OwnV.step (unhide HL) hb) (i := 3) (by rw [mass3_cells]; rfl)
      have m0 := OwnV.cell (OwnV.step (unhide HF1) hb) (i := 0) rfl
      have m1 := OwnV.cell (OwnV.step (unhide HF1) hb) (i := 1) rfl
      have m2 := OwnV.cell (OwnV.step (unhide HF2) hb) (i := 0) rfl
      have m3 := OwnV.cell (OwnV.step (unhide HF2) hb) (i := 1) rfl
      clear hb q5 q6 q1 q2 q7 q8 q3 q4
      by_cases hp0 : p = 0
      · have hpz : (p == 0) = true := by simp [hp0]
        clear hp0
        go_wp2
        go_ret
        exact ⟨rfl, unhide HW⟩
      · have hpz : (p == 0) = false := by simp [hp0]
        have hKp : K ≠ 0 := by
          rw [unhide EK]
          exact Int.mul_ne_zero hp0 (by omega)
        have hnb : ((N1 == N2) && (D1 == D2)) = false := by
          rcases hh : ((N1 == N2) && (D1 == D2)) with _ | _
          · rfl
          · simp only [Bool.and_eq_true, beq_iff_eq] at hh
            exact absurd (unhide HNE (by rw [hh.1, hh.2])) hKp
        have hNe := neq_frac N1 D1 N2 D2
        rw [hnb] at hNe
        have hGd := fun x y w => run_eqGuard_agg (P := Try.prog) w .neq 34 x y #[.int .i64 N1, .int .i64 D1] #[.int .i64 N2, .int .i64 D2] Try.eqgFrac
        clear hnb hKp
        go_wp2
        go_ret
        exact ⟨rfl, unhide HW⟩

end Go.Proofs.Ytmbbhelkmbbobaa
