/- The specification's Shaped. Written by wip/mk20s.py. -/
import Derived.Test.YtgmhijbepkobkaaShpA
import Derived.Deep.Cut
import Derived.Deep.RegionHeld3
namespace Go.Proofs.Ytgmhijbepkobkaa
open Go.RowKit

theorem meetB {id : Nat} {Q : Exit → Act → World → Prop} {e : Exit} {a : Act} {W : World} (p : World → Prop) (hp : p W) (h : ∀ W', p W' → Exit.inBlock id Q e a W') : Exit.inBlock id Q e a W := h W hp
theorem meetS {K : Act → World → Prop} {Q : Exit → Act → World → Prop} {e : Exit} {a : Act} {W : World} (p : World → Prop) (hp : p W) (h : ∀ W', p W' → Exit.then K Q e a W') : Exit.then K Q e a W := h W hp
theorem l3All_any (v : Value) (xs : List Int) (a b : Int) (w : World) (h : IntsIn w v xs) :
    Calls Try.prog 58 #[v, .int .i64 a, .int .i64 b] w fun e w' => e = .returned (.bool (xs.all fun x => inB x a b)) ∧ w = w' := by
  obtain ⟨ao, cap, rfl, hl, hm, hc⟩ := h
  unfold maxLen at hm
  have HC := hide hc
  clear hc
  go_enter Try.func58, Try.ntmps58
  go_wp2
  go_loopg [7] xs.length (fun g i wr => w = wr ∧ ∃ k : Nat, k ≤ xs.length ∧ g = xs.length - k ∧ i = .int .i64 k ∧ Hid (∀ r, r < k → inB (xs.getD r 0) a b = true))
  case atStart => exact ⟨rfl, 0, Nat.zero_le _, rfl, rfl, fun r hr => by omega⟩
  case round =>
    obtain ⟨rfl, k, hk, rfl, rfl, HD⟩ := hrel
    by_cases hkn : k < xs.length
    · obtain ⟨p, o, rfl, hcell⟩ := unhide HC k hkn
      cases hin : inB (xs.getD k 0) a b with
      | true =>
        have HD' : Hid (∀ r, r < k + 1 → inB (xs.getD r 0) a b = true) := fun r hr => by
          by_cases e : r = k
          · subst e; exact hin
          · exact HD.out r (by omega)
        clear HD
        generalize xs.getD k 0 = x at *
        go_wp2_with (go_at_call 57; refine (l1In_any _ _ _ _).mono ?_; rintro e w' ⟨rfl, rfl⟩)
        go_roundg (xs.length - (k + 1))
        case measure => omega
        case rel => exact ⟨rfl, k + 1, by omega, rfl, by go_num, HD'⟩
      | false =>
        have HF : Hid ((xs.all fun x => inB x a b) = false) := all_false hkn (d := 0) hin
        clear HD
        generalize xs.getD k 0 = x at *
        go_wp2_with (go_at_call 57; refine (l1In_any _ _ _ _).mono ?_; rintro e w' ⟨rfl, rfl⟩)
        go_ret
        exact ⟨ret_bool (unhide HF).symm, rfl⟩
    · have HF : Hid ((xs.all fun x => inB x a b) = true) := all_true (d := 0) (fun r hr => HD.out r (by omega))
      clear HD
      go_wp2
      go_ret
      exact ⟨ret_bool (unhide HF).symm, rfl⟩

/-- One cell. -/
def Ce (w : World) (a : Addr) (v : Value) : Prop := w.cell? a = some v
theorem Ce.step {w w' : World} {a : Addr} {v : Value} (h : Ce w a v) (hb : Below w.heap.size w w') : Ce w' a v := (hb.cell (lt_of_cell h)).trans h
theorem Ce.kept {T : Nat → Prop} {w w' : World} {a : Addr} {v : Value} (h : Ce w a v) (hk : Kept T w w') (hT : ¬ T a.block) : Ce w' a v := (World.cell?_of_block (hk.block a.block (lt_of_cell h) hT)).trans h

set_option maxRecDepth 100000 in
set_option maxHeartbeats 16000000 in
theorem specShaped_any (v : Value) (L : List Int) (w : World) (h : IntsIn w v L) :
    Calls Try.prog 28 #[v] w fun e w' => ∃ ao n cap, e = .returned (.tuple #[.slice ao n cap, .bool (puOk L)]) ∧ OwnSl w.heap.size w' (.slice ao n cap) (puL L) ∧ Below w.heap.size w w' := by
  have HV := hide h
  have HALL := hide fun W (hb : Below w.heap.size w W) => l3All_any v L (-1000) 1000 W (h.below hb)
  obtain ⟨ao, cap, rfl, hl, hm, -⟩ := h
  unfold maxLen at hm
  have NIL : ∀ W gg, OwnSl w.heap.size W (.slice (some ⟨gg, 0, none⟩) 0 0) [] := fun W gg => ⟨_, 0, rfl, Nat.le_refl _, Nat.zero_le _, fun e => absurd rfl e⟩
  obtain ⟨V, eV⟩ : ∃ z, z = puOk L := ⟨_, rfl⟩
  obtain ⟨M, eM⟩ : ∃ z, z = puL L := ⟨_, rfl⟩
  have HBAD : Hid (puOk L = false → V = false ∧ M = []) := by
    show _ → _
    intro hf
    refine ⟨eV.trans hf, ?_⟩
    rw [eM]; unfold puL; rw [hf]; rfl
  have HGOOD : Hid (puOk L = true → V = true ∧ M = puV L L.length) := by
    show _ → _
    intro hf
    refine ⟨eV.trans hf, ?_⟩
    rw [eM]; unfold puL; rw [hf]; rfl
  have HN : Hid (∀ k, k < L.length → okPu (L.getD k 0) = false → puOk L = false) := by
    show ∀ k, _
    intro k hk hp
    unfold puOk
    rw [all_false hk hp, Bool.and_false]
  rw [← eV, ← eM]
  clear eV eM
  by_cases h38 : L.length ≤ 38
  case neg =>
    obtain ⟨rfl, rfl⟩ := unhide HBAD (by unfold puOk; rw [decide_eq_false h38]; rfl)
    have hn : (38 : Int) < (L.length : Int) := by omega
    have HW := hide (Below.alloc1 w (.cells #[] 3))
    go_enter Try.func28, Try.ntmps28
    go_wp2
    refine bodyPost_ret (v := .tuple #[.slice (some ⟨w.heap.size, 0, none⟩) 0 0, .bool false]) (by simp [results, Try.results28, go_sem]) rfl ⟨some ⟨w.heap.size, 0, none⟩, 0, 0, rfl, NIL _ _, unhide HW⟩
  have hn : ¬ (38 : Int) < (L.length : Int) := by omega
  cases hall : (L.all fun x => inB x (-1000) 1000) with
  | false =>
    obtain ⟨rfl, rfl⟩ := unhide HBAD (by
      unfold puOk
      have : L.all okPu = false := by
        rw [List.all_eq_false] at hall ⊢
        obtain ⟨x, hx, hp⟩ := hall
        refine ⟨x, hx, ?_⟩
        unfold okPu
        simp only [Bool.not_eq_true] at hp
        rw [hp]; simp
      rw [this, Bool.and_false])
    have HA := hide (unhide HALL w (Below.refl _ _))
    rw [hall] at HA
    have HW := hide (Below.alloc1 w (.cells #[] 3))
    clear hall
    go_enter Try.func28, Try.ntmps28
    go_wp2_with (go_at_call 58; refine (unhide HA).mono ?_; rintro e w' ⟨rfl, h9⟩; subst h9)
    refine bodyPost_ret (v := .tuple #[.slice (some ⟨w.heap.size, 0, none⟩) 0 0, .bool false]) (by simp [results, Try.results28, go_sem]) rfl ⟨some ⟨w.heap.size, 0, none⟩, 0, 0, rfl, NIL _ _, unhide HW⟩
  | true =>
  have HIN : Hid (∀ i, i < L.length → inB (L.getD i 0) (-1000) 1000 = true) := fun i hi => all_at (p := fun x => inB x (-1000) 1000) hall hi
  have HA := hide (unhide HALL w (Below.refl _ _))
  rw [hall] at HA
  clear hall HALL
  obtain ⟨n2, en2⟩ : ∃ z, z = L.length + 2 := ⟨_, rfl⟩
  have hcast : ((L.length : Int) + 2) = (n2 : Int) := by omega
  have hmk := run_make_row' (P := Try.prog) 25 3 (.int .i64 0) 8 Try.underlying25 Try.info3 rfl .i64 .i64 n2 (by omega) (by omega)
  have A1 := Below.alloc1 w (.cells (madeCells #[.int .i64 0] n2) 3)
  have hT := ownV_alloc w (madeCells #[.int .i64 0] n2) 3
  have hmade := made_sh L
  rw [← en2] at hmade
  rw [hmade] at hT
  have HY : Hid ((∀ i, i < L.length → okPu (L.getD i 0) = true) → puOk L = true) := by
    show _ → _
    intro hp
    unfold puOk
    rw [decide_eq_true h38, all_true hp]; rfl
  have Hn2 := hide en2
  clear en2 hmade
  go_enter Try.func28, Try.ntmps28
  go_upto_region 4 with (go_at_call 58; refine (unhide HA).mono ?_; rintro e w' ⟨rfl, h9⟩; subst h9)
  obtain ⟨W, eW⟩ : ∃ z, z = w.alloc (.cells (madeCells #[.int .i64 0] n2) 3) := ⟨_, rfl⟩
  obtain ⟨g, eg⟩ : ∃ z, z = w.heap.size := ⟨_, rfl⟩
  rw [← eW] at A1 hT ⊢
  rw [← eg] at hT ⊢
  have HT := hide hT
  have HW := hide A1
  have hg : w.heap.size ≤ g := by omega
  clear A1 hT hmk eW eg hcast HA
  go_wp2_with fail
  go_loopg [5] L.length (fun gh iv wr => ∃ k : Nat, k ≤ L.length ∧ gh = L.length - k ∧ iv = .int .i64 k ∧ Hid (∀ i, i < k → okPu (L.getD i 0) = true) ∧ Hid (OwnV wr g (ints (puV L k))) ∧ Hid (Below w.heap.size w wr))
  case atStart => exact ⟨0, Nat.zero_le _, rfl, rfl, hide (fun i hi => absurd hi (by omega)), HT, HW⟩
  case round =>
    clear HT HW
    obtain ⟨k, hk, rfl, rfl, HP, HT, HW⟩ := hrel
    by_cases hkn : k < L.length
    · have hki : (k : Int) < (L.length : Int) := by omega
      have dki : decide ((k : Int) < (L.length : Int)) = true := decide_eq_true hki
      have hbw : ∀ b o, ao = some ⟨b, o, none⟩ → b < w.heap.size := fun b o e => by
        obtain ⟨b', o', e', hc'⟩ := intAt (unhide HV) hkn
        rw [e] at e'
        simp only [Option.some.injEq, Addr.mk.injEq, and_true] at e'
        rw [e'.1]
        exact lt_of_cell hc'
      obtain ⟨b, o, eao, hc⟩ := intAt ((unhide HV).below (unhide HW)) hkn
      have hbw := hbw b o eao
      subst eao
      obtain ⟨x, ex⟩ : ∃ z, z = L.getD k 0 := ⟨_, rfl⟩
      rw [← ex] at hc
      have HX := hide ex
      have hin := unhide HIN k hkn
      rw [← ex] at hin
      obtain ⟨x0, x1⟩ := inB_true hin
      clear ex
      have htm : IntKind.i64.wrap (x.tmod 2) = x.tmod 2 := by
        rw [IntKind.wrap_i64]
        rcases Int.le_total 0 x with hp | hp
        · rw [Int.tmod_eq_emod_of_nonneg hp]; omega
        · have e : x = -(-x) := by omega
          rw [e, Int.neg_tmod, Int.tmod_eq_emod_of_nonneg (by omega)]
          omega
      obtain ⟨r, er⟩ : ∃ z, z = x.tmod 2 := ⟨_, rfl⟩
      rw [← er] at htm
      have er2 := er.symm
      have HR := hide er
      clear er
      cases hr : (r == 0) with
      | false =>
        have hrn : (r != 0) = true := by simpa using hr
        obtain ⟨rfl, rfl⟩ := unhide HBAD (unhide HN k hkn (by rw [← unhide HX]; unfold okPu; rw [hin, ← unhide HR, hr]; rfl))
        have HW9 := hide (Below.step (unhide HW) (Below.alloc1 wr (.cells #[] 3)))
        go_wp2
        refine bodyPost_ret (v := .tuple #[.slice (some ⟨wr.heap.size, 0, none⟩) 0 0, .bool false]) (by simp [results, Try.results28, go_sem]) rfl ⟨some ⟨wr.heap.size, 0, none⟩, 0, 0, rfl, NIL _ _, unhide HW9⟩
      | true =>
        have hrn : (r != 0) = false := by simpa using hr
        have hp : okPu x = true := by unfold okPu; rw [hin, ← unhide HR, hr]; rfl
        have HP2 : Hid (∀ i, i < k + 1 → okPu (L.getD i 0) = true) := by
          show ∀ i, _
          intro i hi
          by_cases e : i = k
          · rw [e, ← unhide HX]; exact hp
          · exact unhide HP i (by omega)
        have hhv := hv_bd (unhide HP2 k (by omega))
        have hfb := puF_bd (unhide HP) k
        obtain ⟨y, ey⟩ : ∃ z, z = hv L k := ⟨_, rfl⟩
        have exy : x.tdiv 2 = y := by rw [ey]; unfold hv; rw [unhide HX]
        have wq : IntKind.i64.wrap (x.tdiv 2) = y := by rw [wrap_i64_tdiv _ _ (by omega) (by omega) (by omega), exy]
        obtain ⟨f0, ef⟩ : ∃ z, z = puF L k k := ⟨_, rfl⟩
        have HNX := hide (sh_next L k)
        have hq0 := puV_at L k (j := k) (by omega)
        have hq2 := puV_at L k (j := k + 2) (by omega)
        rw [puF_here] at hq2
        rw [← ef] at hq0 hfb HNX
        rw [← ey] at hhv HNX
        have Hq0 := hide hq0
        clear ey exy ef hp hq0 hr
        obtain ⟨k2, ek2⟩ : ∃ z, z = k + 2 := ⟨_, rfl⟩
        have hk2 : (k2 : Int) < (n2 : Int) := by have := unhide Hn2; omega
        have hk3 : (k : Int) < (n2 : Int) := by omega
        rw [← ek2] at hq2 HNX
        have Hq2 := hide hq2
        have hkk : ((k : Int) + 2) = (k2 : Int) := by omega
        have nk : ¬ k = k2 := by omega
        have hl1 : k < (ints (puV L k)).length := by simp [ints, puV]; omega
        have hl2 : k2 < (ints (puV L k)).length := by simp [ints, puV]; omega
        have HC : Hid (Ce wr ⟨b, o + k, none⟩ (.int .i64 x)) := hc
        have w0 : IntKind.i64.wrap (f0 + y) = f0 + y := by rw [IntKind.wrap_i64]; omega
        have w1 : IntKind.i64.wrap (0 + y) = 0 + y := by rw [IntKind.wrap_i64]; omega
        have w2 : IntKind.i64.wrap ((k : Int) + 2) = (k2 : Int) := by rw [IntKind.wrap_i64]; omega
        have z0y : (0 : Int) + y = y := by omega
        have w4 : IntKind.i64.wrap (k2 : Int) = (k2 : Int) := by rw [IntKind.wrap_i64]; omega
        have w3 : IntKind.i64.wrap y = y := by rw [IntKind.wrap_i64]; omega
        clear ek2 hq2
        go_upto_region 9 with (fail)
        clear hc
        obtain ⟨wd, ewd⟩ : ∃ z, z = wr.drew := ⟨_, rfl⟩
        have hb : Below wr.heap.size wr wd := by rw [ewd]; exact (Below.refl _ _).drew
        replace HT := hide ((unhide HT).step hb)
        replace HW := hide (Below.step (unhide HW) hb)
        replace HC := hide (Ce.step (unhide HC) hb)
        clear hb
        refine wp_region_held_drew (S := fun w' => w'.cell? ⟨b, o + k, none⟩ = some (.int .i64 x)) (by kernel_rfl) (by rw [← ewd]; exact unhide HC) (fun hHeld => ?_)
        rw [← ewd] at hHeld ⊢
        clear ewd
        refine wpAnyH_take (i := 0) (v := ?_) rfl (by kernel_rfl) (by kernel_rfl) (by kernel_rfl) (fun _ _ _ h => h) (Or.inl ⟨by rfl, ?_⟩) (by assumption) ?_
        rotate_left
        · intro wy hSw
          have hS0 := hSw
          go_simp
          try with_reducible rfl
        try simp only [Act.put, List.getElem_toArray, List.getElem_cons_zero, List.setIfInBounds_toArray, List.set_cons_zero, List.set_cons_succ]
        refine wpAnyH_take (i := 1) (v := ?_) rfl (by kernel_rfl) (by kernel_rfl) (by kernel_rfl) (fun _ _ _ h => h) (Or.inl ⟨by rfl, ?_⟩) (by assumption) ?_
        rotate_left
        · intro wy hSw
          have hS0 := hSw
          go_simp
          try with_reducible rfl
        try simp only [Act.put, List.getElem_toArray, List.getElem_cons_succ, List.getElem_cons_zero, List.setIfInBounds_toArray, List.set_cons_zero, List.set_cons_succ]
        refine wpAnyH_take (i := 2) (v := ?_) rfl (by kernel_rfl) (by kernel_rfl) (by kernel_rfl) (fun _ _ _ h => h) (Or.inl ⟨by rfl, ?_⟩) (by assumption) ?_
        rotate_left
        · intro wy hSw
          have hS0 := hSw
          go_simp
          try with_reducible rfl
        try simp only [Act.put, List.getElem_toArray, List.getElem_cons_succ, List.getElem_cons_zero, List.setIfInBounds_toArray, List.set_cons_zero, List.set_cons_succ]
        refine wpAnyH_take (i := 3) (v := ?_) rfl (by kernel_rfl) (by kernel_rfl) (by kernel_rfl) (fun _ _ _ h => h) (Or.inl ⟨by rfl, ?_⟩) (by assumption) ?_
        rotate_left
        · intro wy hSw
          have hS0 := hSw
          go_simp
          try with_reducible rfl
        try simp only [Act.put, List.getElem_toArray, List.getElem_cons_succ, List.getElem_cons_zero, List.setIfInBounds_toArray, List.set_cons_zero, List.set_cons_succ]
        refine wpAnyH_take (i := 4) (v := ?_) rfl (by kernel_rfl) (by kernel_rfl) (by kernel_rfl) (fun _ _ _ h => h) (Or.inl ⟨by rfl, ?_⟩) (by assumption) ?_
        rotate_left
        · intro wy hSw
          have hS0 := hSw
          go_simp
          try with_reducible rfl
        try simp only [Act.put, List.getElem_toArray, List.getElem_cons_succ, List.getElem_cons_zero, List.setIfInBounds_toArray, List.set_cons_zero, List.set_cons_succ]
        refine wpAnyH_take (i := 6) (v := ?_) rfl (by kernel_rfl) (by kernel_rfl) (by kernel_rfl) (fun _ _ _ h => h) (Or.inl ⟨by rfl, ?_⟩) (by assumption) ?_
        rotate_left
        · intro wy hSw
          have hS0 := hSw
          go_simp
          try with_reducible rfl
        try simp only [Act.put, List.getElem_toArray, List.getElem_cons_succ, List.getElem_cons_zero, List.setIfInBounds_toArray, List.set_cons_zero, List.set_cons_succ]
        refine wpAnyH_take (i := 7) (v := ?_) rfl (by kernel_rfl) (by kernel_rfl) (by kernel_rfl) (fun _ _ _ h => h) (Or.inl ⟨by rfl, ?_⟩) (by assumption) ?_
        rotate_left
        · intro wy hSw
          have hS0 := hSw
          go_simp
          try with_reducible rfl
        try simp only [Act.put, List.getElem_toArray, List.getElem_cons_succ, List.getElem_cons_zero, List.setIfInBounds_toArray, List.set_cons_zero, List.set_cons_succ]
        refine wpAnyH_take (i := 8) (v := ?_) rfl (by kernel_rfl) (by kernel_rfl) (by kernel_rfl) (fun _ _ _ h => h) (Or.inl ⟨by rfl, ?_⟩) (by assumption) ?_
        rotate_left
        · intro wy hSw
          have hS0 := hSw
          go_simp
          try with_reducible rfl
        try simp only [Act.put, List.getElem_toArray, List.getElem_cons_succ, List.getElem_cons_zero, List.setIfInBounds_toArray, List.set_cons_zero, List.set_cons_succ]
        refine wpAnyH_take (i := 9) (v := ?_) rfl (by kernel_rfl) (by kernel_rfl) (by kernel_rfl) (fun _ _ _ h => h) (Or.inl ⟨by rfl, ?_⟩) (by assumption) ?_
        rotate_left
        · intro wy hSw
          have hS0 := hSw
          go_simp
          try with_reducible rfl
        try simp only [Act.put, List.getElem_toArray, List.getElem_cons_succ, List.getElem_cons_zero, List.setIfInBounds_toArray, List.set_cons_zero, List.set_cons_succ]
        refine wpAnyH_take (i := 10) (v := ?_) rfl (by kernel_rfl) (by kernel_rfl) (by kernel_rfl) (fun _ _ _ h => h) (Or.inl ⟨by rfl, ?_⟩) (by assumption) ?_
        rotate_left
        · intro wy hSw
          have hS0 := hSw
          go_simp
          try with_reducible rfl
        try simp only [Act.put, List.getElem_toArray, List.getElem_cons_succ, List.getElem_cons_zero, List.setIfInBounds_toArray, List.set_cons_zero, List.set_cons_succ]
        have hcell := (unhide HT).cell (unhide Hq0)
        have hfz := (unhide HT).frozen k
        refine wpAnyH_ready (rs := [5]) (by kernel_rfl) (by simp) ?_
        refine AllReadyH.cons rfl (fun K hK => ?_) AllReadyH.nil
        go_simp
        refine hK.out _ _ hHeld (fun hHeld => ?_)
        clear hK K
        try simp only [Act.put, List.setIfInBounds_toArray, List.set_cons_zero, List.set_cons_succ]
        refine wpAnyH_take (i := 11) (v := ?_) rfl (by kernel_rfl) (by kernel_rfl) (by kernel_rfl) (fun _ _ _ h => h) (Or.inl ⟨by rfl, ?_⟩) (by assumption) ?_
        rotate_left
        · intro wy hSw
          have hS0 := hSw
          go_simp
          try with_reducible rfl
        try simp only [Act.put, List.getElem_toArray, List.getElem_cons_succ, List.getElem_cons_zero, List.setIfInBounds_toArray, List.set_cons_zero, List.set_cons_succ]
        refine wpAnyH_take (i := 12) (v := ?_) rfl (by kernel_rfl) (by kernel_rfl) (by kernel_rfl) (fun _ _ _ h => h) (Or.inl ⟨by rfl, ?_⟩) (by assumption) ?_
        rotate_left
        · intro wy hSw
          have hS0 := hSw
          go_simp
          try with_reducible rfl
        try simp only [Act.put, List.getElem_toArray, List.getElem_cons_succ, List.getElem_cons_zero, List.setIfInBounds_toArray, List.set_cons_zero, List.set_cons_succ]
        refine wpAnyH_ready (rs := [13]) (by kernel_rfl) (by simp) ?_
        refine AllReadyH.cons rfl (fun K hK => ?_) AllReadyH.nil
        have HT9 := hide ((unhide HT).set k (.int .i64 (f0 + y)) (by exact hl1))
        have HW9 := hide ((unhide HW).setCell (p := ⟨g, k, none⟩) (by dsimp only; omega) (.int .i64 (f0 + y)))
        have HC9 : Hid (Ce (wd.setCell ⟨g, k, none⟩ (.int .i64 (f0 + y))) ⟨b, o + k, none⟩ (.int .i64 x)) := (unhide HC).kept ((Kept.refl (fun q => q = g) _).setCell (p := ⟨g, k, none⟩) rfl (.int .i64 (f0 + y))) (fun e => by dsimp only at e; omega)
        go_simp
        clear hcell hfz
        refine hK.out _ _ (unhide HC9) (fun hHeld => ?_)
        clear hK K
        try simp only [Act.put, List.setIfInBounds_toArray, List.set_cons_zero, List.set_cons_succ]
        refine wpAnyH_done (by kernel_rfl) ?_ _
        first
          | refine meetS (fun W => OwnV W g ((ints (puV L k)).set k (.int .i64 (f0 + y))) ∧ Below w.heap.size w W ∧ Ce W ⟨b, o + k, none⟩ (.int .i64 x)) ⟨unhide HT9, unhide HW9, unhide HC9⟩ ?_
          | refine meetB (fun W => OwnV W g ((ints (puV L k)).set k (.int .i64 (f0 + y))) ∧ Below w.heap.size w W ∧ Ce W ⟨b, o + k, none⟩ (.int .i64 x)) ⟨unhide HT9, unhide HW9, unhide HC9⟩ ?_
        rintro V5 ⟨hT, hW, hC⟩
        clear HT HW HC HT9 HW9 HC9 hHeld
        have HT := hide hT
        have HW := hide hW
        have HC := hide hC
        clear hT hW hC
        go_upto_region 10 with (fail)
        have Hq3 := hide (show ((ints (puV L k)).set k (.int .i64 (f0 + y)))[k2]? = some (.int .i64 0) by rw [List.getElem?_set_ne nk]; exact unhide Hq2)
        obtain ⟨wd, ewd⟩ : ∃ z, z = V5.drew := ⟨_, rfl⟩
        have hb : Below V5.heap.size V5 wd := by rw [ewd]; exact (Below.refl _ _).drew
        replace HT := hide ((unhide HT).step hb)
        replace HW := hide (Below.step (unhide HW) hb)
        replace HC := hide (Ce.step (unhide HC) hb)
        clear hb
        refine wp_region_held_drew (S := fun w' => w'.cell? ⟨b, o + k, none⟩ = some (.int .i64 x)) (by kernel_rfl) (by rw [← ewd]; exact unhide HC) (fun hHeld => ?_)
        rw [← ewd] at hHeld ⊢
        clear ewd
        refine wpAnyH_take (i := 0) (v := ?_) rfl (by kernel_rfl) (by kernel_rfl) (by kernel_rfl) (fun _ _ _ h => h) (Or.inl ⟨by rfl, ?_⟩) (by assumption) ?_
        rotate_left
        · intro wy hSw
          have hS0 := hSw
          go_simp
          try with_reducible rfl
        try simp only [Act.put, List.getElem_toArray, List.getElem_cons_zero, List.setIfInBounds_toArray, List.set_cons_zero, List.set_cons_succ]
        refine wpAnyH_take (i := 1) (v := ?_) rfl (by kernel_rfl) (by kernel_rfl) (by kernel_rfl) (fun _ _ _ h => h) (Or.inl ⟨by rfl, ?_⟩) (by assumption) ?_
        rotate_left
        · intro wy hSw
          have hS0 := hSw
          go_simp
          try with_reducible rfl
        try simp only [Act.put, List.getElem_toArray, List.getElem_cons_succ, List.getElem_cons_zero, List.setIfInBounds_toArray, List.set_cons_zero, List.set_cons_succ]
        refine wpAnyH_take (i := 2) (v := ?_) rfl (by kernel_rfl) (by kernel_rfl) (by kernel_rfl) (fun _ _ _ h => h) (Or.inl ⟨by rfl, ?_⟩) (by assumption) ?_
        rotate_left
        · intro wy hSw
          have hS0 := hSw
          go_simp
          try with_reducible rfl
        try simp only [Act.put, List.getElem_toArray, List.getElem_cons_succ, List.getElem_cons_zero, List.setIfInBounds_toArray, List.set_cons_zero, List.set_cons_succ]
        refine wpAnyH_take (i := 3) (v := ?_) rfl (by kernel_rfl) (by kernel_rfl) (by kernel_rfl) (fun _ _ _ h => h) (Or.inl ⟨by rfl, ?_⟩) (by assumption) ?_
        rotate_left
        · intro wy hSw
          have hS0 := hSw
          go_simp
          try with_reducible rfl
        try simp only [Act.put, List.getElem_toArray, List.getElem_cons_succ, List.getElem_cons_zero, List.setIfInBounds_toArray, List.set_cons_zero, List.set_cons_succ]
        refine wpAnyH_take (i := 4) (v := ?_) rfl (by kernel_rfl) (by kernel_rfl) (by kernel_rfl) (fun _ _ _ h => h) (Or.inl ⟨by rfl, ?_⟩) (by assumption) ?_
        rotate_left
        · intro wy hSw
          have hS0 := hSw
          go_simp
          try with_reducible rfl
        try simp only [Act.put, List.getElem_toArray, List.getElem_cons_succ, List.getElem_cons_zero, List.setIfInBounds_toArray, List.set_cons_zero, List.set_cons_succ]
        refine wpAnyH_take (i := 5) (v := ?_) rfl (by kernel_rfl) (by kernel_rfl) (by kernel_rfl) (fun _ _ _ h => h) (Or.inl ⟨by rfl, ?_⟩) (by assumption) ?_
        rotate_left
        · intro wy hSw
          have hS0 := hSw
          go_simp
          try with_reducible rfl
        try simp only [Act.put, List.getElem_toArray, List.getElem_cons_succ, List.getElem_cons_zero, List.setIfInBounds_toArray, List.set_cons_zero, List.set_cons_succ]
        refine wpAnyH_take (i := 6) (v := ?_) rfl (by kernel_rfl) (by kernel_rfl) (by kernel_rfl) (fun _ _ _ h => h) (Or.inl ⟨by rfl, ?_⟩) (by assumption) ?_
        rotate_left
        · intro wy hSw
          have hS0 := hSw
          go_simp
          try with_reducible rfl
        try simp only [Act.put, List.getElem_toArray, List.getElem_cons_succ, List.getElem_cons_zero, List.setIfInBounds_toArray, List.set_cons_zero, List.set_cons_succ]
        refine wpAnyH_take (i := 8) (v := ?_) rfl (by kernel_rfl) (by kernel_rfl) (by kernel_rfl) (fun _ _ _ h => h) (Or.inl ⟨by rfl, ?_⟩) (by assumption) ?_
        rotate_left
        · intro wy hSw
          have hS0 := hSw
          go_simp
          try with_reducible rfl
        try simp only [Act.put, List.getElem_toArray, List.getElem_cons_succ, List.getElem_cons_zero, List.setIfInBounds_toArray, List.set_cons_zero, List.set_cons_succ]
        refine wpAnyH_take (i := 9) (v := ?_) rfl (by kernel_rfl) (by kernel_rfl) (by kernel_rfl) (fun _ _ _ h => h) (Or.inl ⟨by rfl, ?_⟩) (by assumption) ?_
        rotate_left
        · intro wy hSw
          have hS0 := hSw
          go_simp
          try with_reducible rfl
        try simp only [Act.put, List.getElem_toArray, List.getElem_cons_succ, List.getElem_cons_zero, List.setIfInBounds_toArray, List.set_cons_zero, List.set_cons_succ]
        refine wpAnyH_take (i := 10) (v := ?_) rfl (by kernel_rfl) (by kernel_rfl) (by kernel_rfl) (fun _ _ _ h => h) (Or.inl ⟨by rfl, ?_⟩) (by assumption) ?_
        rotate_left
        · intro wy hSw
          have hS0 := hSw
          go_simp
          try with_reducible rfl
        try simp only [Act.put, List.getElem_toArray, List.getElem_cons_succ, List.getElem_cons_zero, List.setIfInBounds_toArray, List.set_cons_zero, List.set_cons_succ]
        refine wpAnyH_take (i := 11) (v := ?_) rfl (by kernel_rfl) (by kernel_rfl) (by kernel_rfl) (fun _ _ _ h => h) (Or.inl ⟨by rfl, ?_⟩) (by assumption) ?_
        rotate_left
        · intro wy hSw
          have hS0 := hSw
          go_simp
          try with_reducible rfl
        try simp only [Act.put, List.getElem_toArray, List.getElem_cons_succ, List.getElem_cons_zero, List.setIfInBounds_toArray, List.set_cons_zero, List.set_cons_succ]
        refine wpAnyH_take (i := 12) (v := ?_) rfl (by kernel_rfl) (by kernel_rfl) (by kernel_rfl) (fun _ _ _ h => h) (Or.inl ⟨by rfl, ?_⟩) (by assumption) ?_
        rotate_left
        · intro wy hSw
          have hS0 := hSw
          go_simp
          try with_reducible rfl
        try simp only [Act.put, List.getElem_toArray, List.getElem_cons_succ, List.getElem_cons_zero, List.setIfInBounds_toArray, List.set_cons_zero, List.set_cons_succ]
        have hcell := (unhide HT).cell (unhide Hq3)
        have hfz := (unhide HT).frozen k2
        refine wpAnyH_ready (rs := [7]) (by kernel_rfl) (by simp) ?_
        refine AllReadyH.cons rfl (fun K hK => ?_) AllReadyH.nil
        go_simp
        refine hK.out _ _ hHeld (fun hHeld => ?_)
        clear hK K
        try simp only [Act.put, List.setIfInBounds_toArray, List.set_cons_zero, List.set_cons_succ]
        refine wpAnyH_take (i := 13) (v := ?_) rfl (by kernel_rfl) (by kernel_rfl) (by kernel_rfl) (fun _ _ _ h => h) (Or.inl ⟨by rfl, ?_⟩) (by assumption) ?_
        rotate_left
        · intro wy hSw
          have hS0 := hSw
          go_simp
          try with_reducible rfl
        try simp only [Act.put, List.getElem_toArray, List.getElem_cons_succ, List.getElem_cons_zero, List.setIfInBounds_toArray, List.set_cons_zero, List.set_cons_succ]
        refine wpAnyH_take (i := 14) (v := ?_) rfl (by kernel_rfl) (by kernel_rfl) (by kernel_rfl) (fun _ _ _ h => h) (Or.inl ⟨by rfl, ?_⟩) (by assumption) ?_
        rotate_left
        · intro wy hSw
          have hS0 := hSw
          go_simp
          try with_reducible rfl
        try simp only [Act.put, List.getElem_toArray, List.getElem_cons_succ, List.getElem_cons_zero, List.setIfInBounds_toArray, List.set_cons_zero, List.set_cons_succ]
        refine wpAnyH_ready (rs := [15]) (by kernel_rfl) (by simp) ?_
        refine AllReadyH.cons rfl (fun K hK => ?_) AllReadyH.nil
        have HT9 := hide ((unhide HT).set k2 (.int .i64 (y)) (by rw [List.length_set]; exact hl2))
        have HW9 := hide ((unhide HW).setCell (p := ⟨g, k2, none⟩) (by dsimp only; omega) (.int .i64 (y)))
        have HC9 : Hid (Ce (wd.setCell ⟨g, k2, none⟩ (.int .i64 (y))) ⟨b, o + k, none⟩ (.int .i64 x)) := (unhide HC).kept ((Kept.refl (fun q => q = g) _).setCell (p := ⟨g, k2, none⟩) rfl (.int .i64 (y))) (fun e => by dsimp only at e; omega)
        go_simp
        clear hcell hfz
        refine hK.out _ _ (unhide HC9) (fun hHeld => ?_)
        clear hK K
        try simp only [Act.put, List.setIfInBounds_toArray, List.set_cons_zero, List.set_cons_succ]
        refine wpAnyH_done (by kernel_rfl) ?_ _
        first
          | refine meetS (fun W => OwnV W g (((ints (puV L k)).set k (.int .i64 (f0 + y))).set k2 (.int .i64 y)) ∧ Below w.heap.size w W ∧ Ce W ⟨b, o + k, none⟩ (.int .i64 x)) ⟨unhide HT9, unhide HW9, unhide HC9⟩ ?_
          | refine meetB (fun W => OwnV W g (((ints (puV L k)).set k (.int .i64 (f0 + y))).set k2 (.int .i64 y)) ∧ Below w.heap.size w W ∧ Ce W ⟨b, o + k, none⟩ (.int .i64 x)) ⟨unhide HT9, unhide HW9, unhide HC9⟩ ?_
        rintro V6 ⟨hT, hW, hC⟩
        clear HT HW HC HT9 HW9 HC9 hHeld
        have HT := hide hT
        have HW := hide hW
        have HC := hide hC
        clear hT hW hC
        rw [z0y] at HNX
        have HT8 : Hid (OwnV V6 g (ints (puV L (k + 1)))) := by rw [← unhide HNX]; exact unhide HT
        go_wp2_with fail
        go_roundg (L.length - (k + 1))
        case measure => omega
        case rel => exact ⟨k + 1, by omega, rfl, by go_num, HP2, HT8, HW⟩
    · obtain rfl : k = L.length := by omega
      have dki : decide ((L.length : Int) < (L.length : Int)) = false := by simp
      obtain ⟨rfl, rfl⟩ := unhide HGOOD (unhide HY (unhide HP))
      go_wp2
      refine bodyPost_ret (v := .tuple #[.slice (some ⟨g, 0, none⟩) n2 n2, .bool true]) (by simp [results, Try.results28, go_sem]) rfl ⟨some ⟨g, 0, none⟩, n2, n2, rfl, ?_, unhide HW⟩
      have e := unhide Hn2
      have hl2 := puV_len L L.length
      exact ⟨_, n2, by rw [hl2, ← e], by rw [hl2]; omega, by unfold maxLen; omega, fun _ => ⟨g, rfl, hg, unhide HT⟩⟩

end Go.Proofs.Ytgmhijbepkobkaa
