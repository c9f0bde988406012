/- FnOrigin, walked: goods of parts drawn; when all parts are of our own, all of it is. Written by wip/mkfor.py. -/
import Derived.Test.YtojlkdmlelgcbaaCsB
import Derived.Test.YtojlkdmlelgcbaaRecG
import Derived.Test.YtojlkdmlelgcbaaAtFix
import Derived.Test.YtojlkdmlelgcbaaKept
import Derived.Deep.RegionHeld3
namespace Go.Proofs.Ytojlkdmlelgcbaa
open Go.RowKit

theorem tyPart : RecTy 45 48 2 ePart := recTy_mk Try.underlying45 Try.infoPart rfl (by decide) (by decide) (fun x j hj => by
  have : j = 0 ∨ j = 1 := by omega
  rcases this with e | e <;> subst e <;> rfl)
/-- Parts as they are drawn: o of our own, a in all. -/
structure Pf (L : List PartT) (o a : Int) : Prop where
  own : pown 1 L = o
  all : pall L = a
  ok : ∀ p ∈ L, prB p = true
  bo : 0 ≤ o ∧ o ≤ 255 * (L.length : Int)
  ba : 0 ≤ a ∧ a ≤ 255 * (L.length : Int)
theorem Pf.start : Pf [] 0 0 := ⟨rfl, rfl, fun p hp => absurd hp (by simp), by simp, by simp⟩
theorem Pf.next {L : List PartT} {o a x y : Int} (h : Pf L o a) (hx : 0 ≤ x ∧ x ≤ 2) (hy : 0 ≤ y ∧ y ≤ 255) : Pf (L ++ [(x, y)]) (o + if x = 1 then y else 0) (a + y) := by
  have h1 := h.bo
  have h2 := h.ba
  refine ⟨by rw [pown_app, h.own]; simp [pown], by rw [pall_app, h.all]; simp [pall], fun p hp => ?_, ?_, ?_⟩
  · rcases List.mem_append.1 hp with e | e
    · exact h.ok p e
    · rw [List.mem_singleton.1 e]
      simp only [prB, Bool.and_eq_true]
      exact ⟨inB_mk hx.1 (by omega), inB_mk hy.1 (by omega)⟩
  · simp only [List.length_append, List.length_singleton]; split <;> omega
  · simp only [List.length_append, List.length_singleton]; omega
theorem psB_mem {L : List PartT} (h : ∀ p ∈ L, prB p = true) : psB L = true := List.all_eq_true.2 h
theorem Pf.ori {L : List PartT} {o a t : Int} (h : Pf L o a) (h1 : 1 ≤ L.length) (h2 : L.length ≤ 8) (ht : 0 ≤ t ∧ t ≤ 100) : oriV L 1 t = (decide (t * a ≤ 100 * o), true) := by
  rw [ori_yes, h.own, h.all]
  simp only [Bool.and_eq_true]
  exact ⟨⟨psB_mem h.ok, inB_mk (by omega) (by omega)⟩, inB_mk ht.1 ht.2⟩
theorem pall_set : ∀ (M : List PartT) (k : Nat) (p : PartT), k < M.length → p.2 = (M.getD k default).2 → pall (M.set k p) = pall M
  | [], k, p, h, _ => by simp at h
  | q :: M, 0, p, _, e => by simp only [List.set_cons_zero, pall]; rw [e]; rfl
  | q :: M, k + 1, p, h, e => by
    simp only [List.set_cons_succ, pall]
    rw [pall_set M k p (by simpa using h) (by rw [e]; rfl)]
theorem pown_all : ∀ M : List PartT, (∀ p ∈ M, p.1 = 1) → pown 1 M = pall M
  | [], _ => rfl
  | p :: M, h => by simp only [pown, pall]; rw [pown_all M (fun q hq => h q (List.mem_cons_of_mem _ hq)), if_pos (h p (List.mem_cons_self ..))]
/-- The first k parts are of our own. -/
structure Po (M : List PartT) (a : Int) (k : Nat) : Prop where
  all : pall M = a
  ok : ∀ p ∈ M, prB p = true
  one : ∀ r, r < k → r < M.length → (M.getD r default).1 = 1
theorem Pf.po {L : List PartT} {o a : Int} (h : Pf L o a) : Po L a 0 := ⟨h.all, h.ok, fun r hr => by omega⟩
theorem Po.next {M : List PartT} {a : Int} {k : Nat} (h : Po M a k) (hk : k < M.length) : Po (M.set k (1, (M.getD k default).2)) a (k + 1) := by
  refine ⟨(pall_set M k (1, (M.getD k default).2) hk rfl).trans h.all, fun p hp => ?_, fun r hr hl => ?_⟩
  · rcases List.mem_or_eq_of_mem_set hp with e | e
    · exact h.ok p e
    · rw [e]
      have h9 := prB_parts (h.ok (M.getD k default) (by rw [getD_lt hk]; exact List.getElem_mem _))
      simp only [prB, Bool.and_eq_true]
      exact ⟨inB_mk (by omega) (by omega), inB_mk h9.2.1 h9.2.2⟩
  · by_cases e : r = k
    · subst e
      simp [List.getD, List.getElem?_set_self hk]
    · rw [List.length_set] at hl
      have h9 := h.one r (by omega) hl
      simp only [List.getD, List.getElem?_set_ne (Ne.symm e)] at h9 ⊢
      exact h9
theorem Po.ends {M : List PartT} {a : Int} {k : Nat} (h : Po M a k) (hk : k = M.length) (h1 : 1 ≤ M.length) (h2 : M.length ≤ 8) : oriV M 1 100 = (true, true) ∧ oriV M 1 101 = (false, false) := by
  have e : pown 1 M = pall M := pown_all M (fun p hp => by
    obtain ⟨r, hr, rfl⟩ := List.mem_iff_getElem.1 hp
    have h9 := h.one r (by omega) hr
    rwa [getD_lt hr] at h9)
  refine ⟨?_, ori_not ?_⟩
  · rw [ori_yes, e]
    · simp
    · simp only [Bool.and_eq_true]
      exact ⟨⟨psB_mem h.ok, inB_mk (by omega) (by omega)⟩, rfl⟩
  · rw [show inB 101 0 100 = false from rfl, Bool.and_false]

set_option maxRecDepth 100000 in
set_option maxHeartbeats 8000000 in
theorem fnOrigin_any (v : Value) (n : Nat) (w : World) (h : BytesIn w.heap.size w v n) : Calls Try.prog 4 #[v] w fun e w' => e = .returned (.bool true) ∧ Below w.heap.size w w' := by
  have HV := hide h
  obtain ⟨ao, vcap, rfl, h1, h2, -⟩ := h
  unfold maxLen at h2
  by_cases hbig : 1048576 < (n : Int)
  · go_enter Try.func4, Try.ntmps4
    go_wp2_with (go_at_call 10; refine (big_any _ _ _ _).mono ?_; rintro e w' ⟨rfl, rfl⟩)
    go_ret
    exact ⟨rfl, Below.refl _ _⟩
  have hn : n ≤ 1048576 := by omega
  obtain ⟨y0, y00, y01, A0⟩ := at_fix _ n 0 w (unhide HV) hn (by omega)
  obtain ⟨y9, y90, y91, A30⟩ := at_fix _ n 30 w (unhide HV) hn (by omega)
  have HA0 := hide A0
  have HA30 := hide A30
  have HAI := hide fun (c : Int) V (hV : Below w.heap.size w V) h0 h1 => at_i _ n w.heap.size c V ((unhide HV).below hV (Nat.le_refl _)) hn h0 h1
  obtain ⟨N, eN⟩ : ∃ N : Nat, (N : Int) = 1 + y0 % 8 := ⟨(1 + y0 % 8).toNat, by omega⟩
  have k1 : y0.tmod 8 = (N : Int) - 1 := by rw [Int.tmod_eq_emod_of_nonneg y00]; omega
  have k2 : y0 % 8 = (N : Int) - 1 := by omega
  have hN2 : 1 ≤ N := by omega
  have hN7 : N ≤ 8 := by omega
  obtain ⟨t, et⟩ : ∃ t, t = y9 % 101 := ⟨_, rfl⟩
  have t1 : y9.tmod 101 = t := by rw [Int.tmod_eq_emod_of_nonneg y90, et]
  have t2 : y9 % 101 = t := et.symm
  have ht : 0 ≤ t ∧ t ≤ 100 := by omega
  clear A0 A30 eN et
  have HM0 := hide (rowB_new 48 2 ePart w 0 (Nat.zero_le _))
  have HB0 := hide (Below.alloc1 w (.cells #[] 48))
  go_enter Try.func4, Try.ntmps4
  go_wp2_with (go_at_call 10; refine (big_any _ _ _ _).mono ?_; rintro e w' ⟨rfl, rfl⟩)
  go_loopg [3, 4, 5, 6] N (fun gg cv ov av iv wr => ∃ (i D cap : Nat) (L : List PartT) (o a : Int), i ≤ N ∧ gg = N - i ∧ iv = .int .i64 i ∧ ov = .int .i64 o ∧ av = .int .i64 a ∧ cv = .slice (some ⟨D, 0, none⟩) i cap ∧ w.heap.size ≤ D ∧ Hid (Pf L o a) ∧ Hid (Below w.heap.size w wr) ∧ Hid (RowB 48 2 ePart 0 wr (some ⟨D, 0, none⟩) i cap L))
  case atStart => exact ⟨0, w.heap.size, 0, [], 0, 0, Nat.zero_le _, rfl, rfl, rfl, rfl, rfl, Nat.le_refl _, Pf.start, HB0, HM0⟩
  case round =>
    clear HM0 HB0
    obtain ⟨i, D, cap, L, o, a, hi, rfl, rfl, rfl, rfl, rfl, hD, HP, HW, HR⟩ := hrel
    have HLE : Hid (L.length = i) := (unhide HR).len (by omega)
    have hbo := (unhide HP).bo
    have hba := (unhide HP).ba
    have hDl := ((unhide HR).ownG (by omega)).2.2.2.1
    have hL0 := unhide HLE
    rw [hL0] at hbo hba
    clear hL0
    by_cases hiN : i < N
    · have d0 : decide ((i : Int) < 1 + ((N : Int) - 1)) = true := by rw [decide_eq_true_eq]; omega
      go_wp2_with fail
      refine (unhide HA0 _ (unhide HW)).mono ?_
      rintro e w' ⟨rfl, h9⟩
      have h8 := h9.symm
      subst h8
      clear h9
      go_wp2_with fail
      refine (unhide HAI (2 * (i : Int) + 1) _ (unhide HW) (by omega) (by omega)).mono ?_
      rintro e w' ⟨u, rfl, hu0, hu1, rfl⟩
      obtain ⟨x, ex⟩ : ∃ x, x = u % 3 := ⟨_, rfl⟩
      have x1 : u.tmod 3 = x := by rw [Int.tmod_eq_emod_of_nonneg hu0, ex]
      have x2 : u % 3 = x := ex.symm
      have hx : 0 ≤ x ∧ x ≤ 2 := by omega
      clear ex
      go_wp2_with fail
      refine (unhide HAI (2 * (i : Int) + 2) _ (unhide HW) (by omega) (by omega)).mono ?_
      rintro e w' ⟨y, rfl, hy0, hy1, rfl⟩
      have HN := hide ((unhide HP).next hx ⟨hy0, hy1⟩)
      obtain ⟨V5, eV5⟩ : ∃ V, V = wr.alloc (.cells #[.int .i64 x, .int .i64 y] 48) := ⟨_, rfl⟩
      have HBX := hide (ownV_alloc wr #[.int .i64 x, .int .i64 y] 48)
      have A5 := Below.alloc1 wr (.cells #[.int .i64 x, .int .i64 y] 48)
      go_upto_region 9 with (fail)
      rw [← eV5] at HBX A5 ⊢
      clear eV5
      have HW5 := hide (Below.step (unhide HW) A5)
      have HR5 := hide ((unhide HR).below A5)
      have hs5 := (unhide HW).size
      obtain ⟨gb, egb⟩ : ∃ z, z = wr.heap.size := ⟨_, rfl⟩
      rw [← egb] at HBX ⊢
      have hgb : ¬ gb = D := by omega
      have hgb2 : w.heap.size ≤ gb := by omega
      clear A5 egb HW HR
      have q0 := (unhide HBX).cell (i := 0) rfl
      have q1 := (unhide HBX).cell (i := 1) rfl
      have A6 := Below.alloc1 V5 (.cells #[.int .i64 x, .int .i64 y] 48)
      have HG := hide (ownV_alloc V5 #[.int .i64 x, .int .i64 y] 48)
      have HR6 := hide ((unhide HR5).below A6)
      have HW6 := hide (Below.step (unhide HW5) A6)
      have HB6 := hide ((unhide HBX).step A6)
      clear A6 HR5 HW5 HBX
      go_upto_region 10 with (at_builtin; go_must (refine wpList_appRow tyPart _ rfl (.tmp 39) (.tmp 41) rfl 0 (some ⟨D, 0, none⟩) i cap L rfl (unhide HR6) (Nat.zero_le _) (by omega) V5.heap.size (x, y) 1 rfl (unhide HG) ?_); intro g' cap' w' hL hKp hBg hat; have HL9 := hide hL; have HK9 := hide hKp; have HAT := hide hat; clear hL hKp hBg hat)
      have hK : Kept (fun k => k = D) _ w' := (unhide HK9).mono (fun k _ e => by simp only [Option.some.injEq, Addr.mk.injEq, and_true] at e; exact e.symm)
      have HW7 := hide ((unhide HW6).trans (hK.below (unhide HW6).size (fun k e => by have e : k = D := e; omega)))
      have HB7 := hide ((unhide HB6).kept hK (fun e => hgb e))
      have hg' : w.heap.size ≤ g' := by
        rcases unhide HAT with e | e
        · simp only [Option.some.injEq, Addr.mk.injEq, and_true] at e
          omega
        · have := (unhide HW6).size
          omega
      clear hK HW6 HB6 HK9 HAT HG HR6 q0 q1
      have q0 := (unhide HB7).cell (i := 0) rfl
      have q1 := (unhide HB7).cell (i := 1) rfl
      by_cases hx1 : x = 1
      · rw [if_pos hx1] at HN
        have dx : (x == 1) = true := by simpa using hx1
        clear hx1
        go_wp2
        go_roundg (N - (i + 1))
        case measure => omega
        case rel => exact ⟨i + 1, g', cap', L ++ [(x, y)], o + y, a + y, by omega, rfl, by go_num, by go_num, by go_num, rfl, hg', HN, HW7, HL9⟩
      · rw [if_neg hx1, Int.add_zero] at HN
        have dx : (x == 1) = false := by simpa using hx1
        clear hx1
        go_wp2
        go_roundg (N - (i + 1))
        case measure => omega
        case rel => exact ⟨i + 1, g', cap', L ++ [(x, y)], o, a + y, by omega, rfl, by go_num, by go_num, by go_num, rfl, hg', HN, HW7, HL9⟩
    · have d0 : decide ((i : Int) < 1 + ((N : Int) - 1)) = false := by rw [decide_eq_false_iff_not]; omega
      go_wp2_with fail
      refine (unhide HA0 _ (unhide HW)).mono ?_
      rintro e w' ⟨rfl, h9⟩
      have h8 := h9.symm
      subst h8
      clear h9
      have hmu := ori_mul (least := t) (a := a) ht (by omega)
      have E1 := (unhide HP).ori (t := t) (by have := unhide HLE; omega) (by have := unhide HLE; omega) ht
      obtain ⟨q, eq⟩ : ∃ q, q = t * a := ⟨_, rfl⟩
      rw [← eq] at E1 hmu
      have e1 : IntKind.i64.wrap (100 * o) = 100 * o := by rw [IntKind.wrap_i64]; omega
      have e2 : IntKind.i64.wrap (t * a) = q := by rw [← eq, IntKind.wrap_i64]; omega
      obtain ⟨hO1, hO2, hO3, -, -⟩ := (unhide HR).ownG (by omega)
      have HO := hide hO1
      have HCM := hide hO3
      have HPO := hide (unhide HP).po
      have HRI := hide ((unhide HR).recs (by omega))
      have B1 := hide fun V hV => implOrigin_any (some ⟨D, 0, none⟩) i cap L 1 t V hV (by have := unhide HLE; omega)
      rw [E1] at B1
      dsimp only at B1
      have hi1 : 1 ≤ i := by omega
      have hi8 : i ≤ 8 := by omega
      clear E1 eq hO1 hO3 HP HR
      by_cases hq : q ≤ 100 * o
      · skip
        have d1 : decide (q ≤ 100 * o) = true := by simpa using hq
        rw [d1] at B1
        clear hq
        go_wp2_with fail
        refine (unhide HA30 _ (unhide HW)).mono ?_
        rintro e w' ⟨rfl, h9⟩
        have h8 := h9.symm
        subst h8
        clear h9
        go_wp2_with fail
        refine (unhide B1 _ (unhide HRI)).mono ?_
        rintro e V2 ⟨rfl, hb⟩
        replace HW := hide (Below.step (unhide HW) hb)
        replace HO := hide ((unhide HO).step hb)
        clear hb B1 HRI
        go_wp2_with fail
        go_loopg [11] i (fun gg iv wr => ∃ (k : Nat) (M : List PartT), k ≤ i ∧ gg = i - k ∧ iv = .int .i64 k ∧ Hid (M.length = i) ∧ Hid (Po M a k) ∧ Hid (Below w.heap.size w wr) ∧ Hid (OwnV wr D (recCells 2 ePart M)))
        case atStart => exact ⟨0, L, Nat.zero_le _, rfl, rfl, HLE, HPO, HW, HO⟩
        case round =>
          clear HW HO HPO HLE
          obtain ⟨k, M, hk, rfl, rfl, HLE, HPO, HW, HO⟩ := hrel
          have hMl := unhide HLE
          by_cases hki : k < i
          · have hkM : k < M.length := by omega
            have hkI : (k : Int) < (i : Int) := by omega
            obtain ⟨x, y, EX⟩ : ∃ x y, M.getD k default = (x, y) := ⟨_, _, rfl⟩
            have c0 : wr.cell? ⟨D, k * 2, none⟩ = some (.int .i64 x) := by
              have h9 := (unhide HO).cell (recCells_get (n := 2) (enc := ePart) hkM (j := 0) (by omega))
              rw [EX] at h9
              exact h9
            have cf := (unhide HO).frozen
            have HNX : Hid (Po (M.set k (1, y)) a (k + 1)) := by
              have h9 := (unhide HPO).next hkM
              rw [EX] at h9
              exact h9
            have HO2 : Hid (OwnV (wr.setCell ⟨D, k * 2, none⟩ (.int .i64 1)) D (recCells 2 ePart (M.set k (1, y)))) := by
              have h9 := (unhide HO).set (k * 2) (.int .i64 1) (by rw [recCells_length]; omega)
              have e9 := recG_set (n := 2) (enc := ePart) M (i := k) (j := 0) (by omega) hkM (1, y) (fun j' h1 h2 => by rw [EX]; rcases (by omega : j' = 0 ∨ j' = 1) with rfl | rfl <;> first | rfl | exact absurd rfl h2)
              rw [← e9]
              exact h9
            have HL2 : Hid ((M.set k (1, y)).length = i) := by show _ = _; rw [List.length_set]; exact hMl
            have HW2 := hide ((unhide HW).trans ((Kept.setCell (T := fun b => b = D) (Kept.refl _ wr) (p := ⟨D, k * 2, none⟩) rfl (.int .i64 1)).below (unhide HW).size (fun k e => by have e : k = D := e; omega)))
            clear HPO HO HLE HW EX hMl
            go_wp2
            go_roundg (i - (k + 1))
            case measure => omega
            case rel => exact ⟨k + 1, M.set k (1, y), by omega, rfl, by go_num, HL2, HNX, HW2, HO2⟩
          · have hkE : k = M.length := by omega
            obtain ⟨E2, E3⟩ := (unhide HPO).ends hkE (by omega) (by omega)
            have HRI : Hid (RPart wr (.slice (some ⟨D, 0, none⟩) i cap) M) := by
              have h9 := OwnV.recsIn (cap := cap) (unhide HO) (by omega) (unhide HCM)
              rw [hMl] at h9
              exact h9
            have B2 := hide fun V hV => implOrigin_any (some ⟨D, 0, none⟩) i cap M 1 100 V hV (by omega)
            have B3 := hide fun V hV => implOrigin_any (some ⟨D, 0, none⟩) i cap M 1 101 V hV (by omega)
            rw [E2] at B2
            rw [E3] at B3
            dsimp only at B2 B3
            have hkI : ¬ (k : Int) < (i : Int) := by omega
            clear E2 E3 HPO HO HLE hkE hMl
            go_wp2_with fail
            refine (unhide B2 _ (unhide HRI)).mono ?_
            rintro e V3 ⟨rfl, hb⟩
            replace HW := hide (Below.step (unhide HW) hb)
            replace HRI := hide ((unhide HRI).below hb)
            clear hb B2
            go_wp2_with fail
            refine (unhide B3 _ (unhide HRI)).mono ?_
            rintro e V4 ⟨rfl, hb⟩
            replace HW := hide (Below.step (unhide HW) hb)
            clear hb B3 HRI
            go_wp2
            go_ret
            exact ⟨rfl, unhide HW⟩
      · skip
        have d1 : decide (q ≤ 100 * o) = false := by simpa using hq
        rw [d1] at B1
        clear hq
        go_wp2_with fail
        refine (unhide HA30 _ (unhide HW)).mono ?_
        rintro e w' ⟨rfl, h9⟩
        have h8 := h9.symm
        subst h8
        clear h9
        go_wp2_with fail
        refine (unhide B1 _ (unhide HRI)).mono ?_
        rintro e V2 ⟨rfl, hb⟩
        replace HW := hide (Below.step (unhide HW) hb)
        replace HO := hide ((unhide HO).step hb)
        clear hb B1 HRI
        go_wp2_with fail
        go_loopg [11] i (fun gg iv wr => ∃ (k : Nat) (M : List PartT), k ≤ i ∧ gg = i - k ∧ iv = .int .i64 k ∧ Hid (M.length = i) ∧ Hid (Po M a k) ∧ Hid (Below w.heap.size w wr) ∧ Hid (OwnV wr D (recCells 2 ePart M)))
        case atStart => exact ⟨0, L, Nat.zero_le _, rfl, rfl, HLE, HPO, HW, HO⟩
        case round =>
          clear HW HO HPO HLE
          obtain ⟨k, M, hk, rfl, rfl, HLE, HPO, HW, HO⟩ := hrel
          have hMl := unhide HLE
          by_cases hki : k < i
          · have hkM : k < M.length := by omega
            have hkI : (k : Int) < (i : Int) := by omega
            obtain ⟨x, y, EX⟩ : ∃ x y, M.getD k default = (x, y) := ⟨_, _, rfl⟩
            have c0 : wr.cell? ⟨D, k * 2, none⟩ = some (.int .i64 x) := by
              have h9 := (unhide HO).cell (recCells_get (n := 2) (enc := ePart) hkM (j := 0) (by omega))
              rw [EX] at h9
              exact h9
            have cf := (unhide HO).frozen
            have HNX : Hid (Po (M.set k (1, y)) a (k + 1)) := by
              have h9 := (unhide HPO).next hkM
              rw [EX] at h9
              exact h9
            have HO2 : Hid (OwnV (wr.setCell ⟨D, k * 2, none⟩ (.int .i64 1)) D (recCells 2 ePart (M.set k (1, y)))) := by
              have h9 := (unhide HO).set (k * 2) (.int .i64 1) (by rw [recCells_length]; omega)
              have e9 := recG_set (n := 2) (enc := ePart) M (i := k) (j := 0) (by omega) hkM (1, y) (fun j' h1 h2 => by rw [EX]; rcases (by omega : j' = 0 ∨ j' = 1) with rfl | rfl <;> first | rfl | exact absurd rfl h2)
              rw [← e9]
              exact h9
            have HL2 : Hid ((M.set k (1, y)).length = i) := by show _ = _; rw [List.length_set]; exact hMl
            have HW2 := hide ((unhide HW).trans ((Kept.setCell (T := fun b => b = D) (Kept.refl _ wr) (p := ⟨D, k * 2, none⟩) rfl (.int .i64 1)).below (unhide HW).size (fun k e => by have e : k = D := e; omega)))
            clear HPO HO HLE HW EX hMl
            go_wp2
            go_roundg (i - (k + 1))
            case measure => omega
            case rel => exact ⟨k + 1, M.set k (1, y), by omega, rfl, by go_num, HL2, HNX, HW2, HO2⟩
          · have hkE : k = M.length := by omega
            obtain ⟨E2, E3⟩ := (unhide HPO).ends hkE (by omega) (by omega)
            have HRI : Hid (RPart wr (.slice (some ⟨D, 0, none⟩) i cap) M) := by
              have h9 := OwnV.recsIn (cap := cap) (unhide HO) (by omega) (unhide HCM)
              rw [hMl] at h9
              exact h9
            have B2 := hide fun V hV => implOrigin_any (some ⟨D, 0, none⟩) i cap M 1 100 V hV (by omega)
            have B3 := hide fun V hV => implOrigin_any (some ⟨D, 0, none⟩) i cap M 1 101 V hV (by omega)
            rw [E2] at B2
            rw [E3] at B3
            dsimp only at B2 B3
            have hkI : ¬ (k : Int) < (i : Int) := by omega
            clear E2 E3 HPO HO HLE hkE hMl
            go_wp2_with fail
            refine (unhide B2 _ (unhide HRI)).mono ?_
            rintro e V3 ⟨rfl, hb⟩
            replace HW := hide (Below.step (unhide HW) hb)
            replace HRI := hide ((unhide HRI).below hb)
            clear hb B2
            go_wp2_with fail
            refine (unhide B3 _ (unhide HRI)).mono ?_
            rintro e V4 ⟨rfl, hb⟩
            replace HW := hide (Below.step (unhide HW) hb)
            clear hb B3 HRI
            go_wp2
            go_ret
            exact ⟨rfl, unhide HW⟩

end Go.Proofs.Ytojlkdmlelgcbaa
