/- Radios: contracts of the program's slotsHeard, free. -/
import Derived.Test.YtkjikjeecjendaaRdG
import Derived.Test.YtkjikjeecjendaaCpInt
namespace Go.Proofs.Ytkjikjeecjendaa
open Go.RowKit

theorem kept_cell {T : Nat → Prop} {w w' : World} {b o : Nat} {v : Value} (hk : Kept T w w') (hc : w.cell? ⟨b, o, none⟩ = some v) (hT : ¬ T b) : w'.cell? ⟨b, o, none⟩ = some v :=
  (World.cell?_of_block (w := w) (a := ⟨b, o, none⟩) (hk.block b (lt_of_cell hc) hT)).trans hc
theorem Kept.drewL {T : Nat → Prop} {w w' : World} (hk : Kept T w.drew w') : Kept T w w' := ⟨hk.os, hk.tape, hk.output, hk.size, hk.block⟩
theorem zero20 (L : List Rad) (i : Nat) : (#[.int .i32 0, .int .i32 0, .int .i32 0, .int .i32 0, .int .i32 0, .int .i32 0, .int .i32 0, .int .i32 0, .int .i32 0, .int .i32 0, .int .i32 0, .int .i32 0, .int .i32 0, .int .i32 0, .int .i32 0, .int .i32 0, .int .i32 0, .int .i32 0, .int .i32 0, .int .i32 0] : Array Value).toList = (cnts L i 0).map e32 := rfl

set_option maxRecDepth 10000 in
set_option maxHeartbeats 1600000 in
theorem slotsHeard_any (v : Value) (L : List Rad) (i : Nat) (w : World) (h : RadsIn w v L) (hok : RadsOk L) (hi : i < L.length) :
    Calls Try.prog 61 #[v, .int .i64 i] w fun e w' => ∃ g, e = .returned (.pointer (some ⟨g, 0, none⟩)) ∧ w.heap.size ≤ g ∧ OwnV w' g ((cnts L i (rHe L i).length).map e32) ∧ Below w.heap.size w w' := by
  obtain ⟨ao, cap, rfl, hl, hm, hc⟩ := h
  unfold maxLen at hm
  have HC := hide hc
  have HOK := hide hok
  clear hc hok
  obtain ⟨b, o, na, nc, id, sl, H, m, rfl, hc0, hc1, hc2, hr, EX, EM, hm0⟩ := radAt (unhide HC) hi
  have hii : (i : Int) < L.length := by omega
  have E3 : Hid (rHe L i = H) := by show (L.getD i default).2.2 = H; rw [unhide EX]
  have hm24 : m ≤ 24 := by
    have h1 := len_le ((unhide HOK).2.2.1 i hi).2.2
    rw [unhide E3, unhide EM] at h1
    have := (unhide HOK).2.1
    omega
  have HR := hide hr
  have hA := Below.alloc1 w (.cells #[.int .i32 0, .int .i32 0, .int .i32 0, .int .i32 0, .int .i32 0, .int .i32 0, .int .i32 0, .int .i32 0, .int .i32 0, .int .i32 0, .int .i32 0, .int .i32 0, .int .i32 0, .int .i32 0, .int .i32 0, .int .i32 0, .int .i32 0, .int .i32 0, .int .i32 0, .int .i32 0] 105)
  have hO := ownV_alloc w #[.int .i32 0, .int .i32 0, .int .i32 0, .int .i32 0, .int .i32 0, .int .i32 0, .int .i32 0, .int .i32 0, .int .i32 0, .int .i32 0, .int .i32 0, .int .i32 0, .int .i32 0, .int .i32 0, .int .i32 0, .int .i32 0, .int .i32 0, .int .i32 0, .int .i32 0, .int .i32 0] 105
  rw [zero20 L i] at hO
  have g2 := wcell3 hc2 hA
  have HB := hide hA
  have HO := hide hO
  rw [unhide E3, unhide EM]
  clear hc0 hc1 hc2 hr hA hO
  generalize hV : w.alloc (.cells #[.int .i32 0, .int .i32 0, .int .i32 0, .int .i32 0, .int .i32 0, .int .i32 0, .int .i32 0, .int .i32 0, .int .i32 0, .int .i32 0, .int .i32 0, .int .i32 0, .int .i32 0, .int .i32 0, .int .i32 0, .int .i32 0, .int .i32 0, .int .i32 0, .int .i32 0, .int .i32 0] 105) = V at HB HO g2
  go_enter Try.func61, Try.ntmps61
  go_wp2
  clear hV g2
  go_loopg [15] m (fun g kv wr => ∃ k : Nat, k ≤ m ∧ g = m - k ∧ kv = .int .i64 k ∧ Below w.heap.size w wr ∧ OwnV wr w.heap.size ((cnts L i k).map e32))
  case atStart => exact ⟨0, Nat.zero_le _, rfl, rfl, unhide HB, unhide HO⟩
  case round =>
    obtain ⟨k, hk, rfl, rfl, hW, hO⟩ := hrel
    clear HB HO
    by_cases hkm : k < m
    · obtain ⟨b', o', rfl, hcell⟩ := intAt (unhide HR) hkm
      have c0 := wcell3 hcell hW
      have hkm' : (k : Int) < m := by omega
      have hHe : HeAt H i L.length k := by
        have := ((unhide HOK).2.2.1 i hi).2.2
        rw [unhide E3] at this
        exact this k (by rw [unhide EM]; exact hkm)
      obtain ⟨hx0, hx1, -, -⟩ := hHe
      have ES : slK L i k = rSl L (H.getD k 0).toNat := by unfold slK; rw [unhide E3]
      obtain ⟨x, hx⟩ : ∃ x : Nat, H.getD k 0 = (x : Int) := ⟨(H.getD k 0).toNat, by omega⟩
      rw [hx] at c0 hx0 hx1 ES
      rw [Int.toNat_natCast] at ES
      have hxl : x < L.length := by omega
      obtain ⟨b2, o2, na2, nc2, id2, sl2, H2, m2, e2, hd0, hd1, hd2, hr2, EX2, EM2, hm2⟩ := radAt (unhide HC) hxl
      simp only [Option.some.injEq, Addr.mk.injEq, and_true] at e2
      obtain ⟨rfl, rfl⟩ := e2
      have q1 := wcell3 hd1 hW
      have hsl := ((unhide HOK).2.2.1 x hxl).2.1
      have esl : rSl L x = sl2 := by show (L.getD x default).2.1 = sl2; rw [unhide EX2]
      unfold SlOk at hsl
      rw [esl] at hsl ES
      obtain ⟨hs0, hs1⟩ := hsl
      obtain ⟨s, hs⟩ : ∃ s : Nat, sl2 = (s : Int) := ⟨sl2.toNat, by omega⟩
      subst hs
      have hs20 : s < 20 := by omega
      have hbd := cntK_bd L i s k
      have HAD := hide fun W (hW : OwnV W w.heap.size ((cnts L i k).map e32)) => add32_any w.heap.size s (cnts L i k) W hW (by rw [cnts_len]; exact hs20) (by rw [cnts_get L i k hs20]; exact hbd.1) (by rw [cnts_get L i k hs20]; omega)
      rw [cnts_get L i k hs20, cnts_step L i k s ES] at HAD
      have HW := hide hW
      have HO := hide hO
      have hs20' : (s : Int) < 20 := by omega
      have hbl : ¬ b = w.heap.size := by have := lt_of_cell hd1; simp only at this; omega
      clear hcell hd0 hd1 hd2 hr2 hW hO hx hbd ES esl
      go_wp2
      go_region_held3 (fun z => z.cell? ⟨b, o + x * 3 + 1, none⟩ = some (.int .i64 (s : Int))) (go_keep) (first | (go_at_call 82; refine (unhide HAD _ (unhide HO).drew).mono ?_; rintro e w3 ⟨rfl, ho3, hk3⟩; have f1 := kept_cell hk3 (w := wr.drew) q1 hbl; have HO3 := hide ho3; have HB3 := hide (Below.trans (unhide HW) ((Kept.drewL hk3).below (B := w.heap.size) (unhide HW).size (fun b e => by omega))); clear ho3 hk3))
      go_wp2
      go_roundg (m - (k + 1))
      case measure => omega
      case rel => exact ⟨k + 1, by omega, rfl, by go_num, unhide HB3, unhide HO3⟩
    · have hkk : k = m := by omega
      subst hkk
      have HW := hide hW
      have HO := hide hO
      clear hW hO
      go_wp2
      go_ret
      exact ⟨_, rfl, Nat.le_refl _, unhide HO, unhide HW⟩

theorem own_told1 {A : World} {B : Nat} {ov : Value} {M N : List Int} {k : Nat} (h : A.ownsRow B 3 1 ov k (ints M)) (e : M = N) : ∃ a n cp, ov = .slice a n cp ∧ OwnSl B A (.slice a n cp) N := by
  subst e
  have hk : k = M.length := by have := h.1; simp [ints] at this; omega
  subst hk
  have ho := (ownsRow_ownSl h).1
  obtain ⟨a, cp, ev, h1, h2, h3⟩ := ho
  subst ev
  exact ⟨a, _, cp, rfl, a, cp, rfl, h1, h2, h3⟩

/-- The slots from 0 to s that none has. -/
noncomputable def freeU (L : List Rad) (i : Nat) : Nat → List Int
  | 0 => []
  | s + 1 => freeU L i s ++ if pB (Heard L i (s : Int)) then [] else [(s : Int)]
noncomputable def freeL (L : List Rad) (i : Nat) : List Int := freeU L i 20
theorem freeU_len (L : List Rad) (i s : Nat) : (freeU L i s).length ≤ s := by
  induction s with
  | zero => simp [freeU]
  | succ s ih => simp only [freeU, List.length_append]; split <;> simp <;> omega
theorem heard_cnt (L : List Rad) (i s : Nat) : decide (0 < cntK L i s (rHe L i).length) = pB (Heard L i (s : Int)) := by
  cases h : pB (Heard L i (s : Int)) with
  | true => rw [decide_eq_true_eq, cntK_pos]; exact of_pB h
  | false => rw [decide_eq_false_iff_not, cntK_pos]; exact not_pB h

set_option maxRecDepth 10000 in
set_option maxHeartbeats 1600000 in
theorem free_any (g : Nat) (L : List Rad) (i : Nat) (w : World) (h : OwnV w g ((cnts L i (rHe L i).length).map e32)) :
    Calls Try.prog 69 #[.pointer (some ⟨g, 0, none⟩)] w fun e w' => ∃ a n cp, e = .returned (.slice a n cp) ∧ OwnSl w.heap.size w' (.slice a n cp) (freeL L i) ∧ Below w.heap.size w w' := by
  obtain ⟨i0, hinf, hzz⟩ := Option.map_eq_some_iff.1 Try.infoIntCp
  simp only [Prod.mk.injEq] at hzz
  obtain ⟨hz0, hz1, hz2⟩ := hzz
  have HO := hide h
  clear h
  unfold freeL
  go_enter Try.func69, Try.ntmps69
  go_wp2
  go_loopg [3, 5] 20 (fun gg ov sv wr => ∃ s : Nat, s ≤ 20 ∧ gg = 20 - s ∧ sv = .int .i64 s ∧ Below w.heap.size w wr ∧ (∃ a n cp, ov = .slice a n cp) ∧ Hid (wr.ownsRow w.heap.size 3 1 ov (freeU L i s).length (ints (freeU L i s))))
  case atStart => exact ⟨0, Nat.zero_le _, rfl, rfl, Below.refl _ _, ⟨_, _, _, rfl⟩, World.ownsRow_nil _ _ _ _⟩
  case round =>
    obtain ⟨s, hs, rfl, rfl, hW, ⟨a, n, cp, rfl⟩, HR⟩ := hrel
    by_cases hs20 : s < 20
    · have HH := hide (has_any g s (cnts L i (rHe L i).length) wr ((unhide HO).step hW) (cnts_len _ _ _) hs20)
      rw [cnts_get _ _ _ hs20, heard_cnt] at HH
      have hfl := freeU_len L i s
      have HW := hide hW
      have hsz := hW.size
      cases hq : pB (Heard L i (s : Int)) with
      | true =>
        have EF : Hid (freeU L i (s + 1) = freeU L i s) := by show _ = _; simp [freeU, hq]
        rw [hq] at HH
        clear hq hW
        go_wp2_with fail
        refine (unhide HH).mono ?_
        rintro e w2 ⟨rfl, h9⟩
        have h8 := h9.symm
        subst h8
        clear h9
        go_wp2
        go_roundg (20 - (s + 1))
        case measure => omega
        case rel => exact ⟨s + 1, by omega, rfl, by go_num, unhide HW, ⟨_, _, _, rfl⟩, by rw [unhide EF]; exact HR⟩
      | false =>
        have EF : Hid (freeU L i (s + 1) = freeU L i s ++ [(s : Int)]) := by show _ = _; simp [freeU, hq]
        rw [hq] at HH
        clear hq hW
        have HR2 := hide (ownsRow_below (unhide HR) (Below.alloc1 wr (.cells #[.int .i64 s] 3)))
        go_wp2_with fail
        refine (unhide HH).mono ?_
        rintro e w2 ⟨rfl, h9⟩
        have h8 := h9.symm
        subst h8
        clear h9
        go_wp2_with (at_builtin; refine wpList_append_lies _ rfl _ _ 34 rfl w.heap.size 3 i0 _ 1 8 Try.underlying34 hinf hz0 hz1 hz2 rfl (by decide) _ (freeU L i s).length _ rfl (unhide HR2) ⟨wr.heap.size, 0, none⟩ 1 1 [.int .i64 s] rfl rfl (cell_one_new _ _ _) (by simp [Value.oneCell']) (by omega) (by unfold maxLen; omega) (by omega) (by simp; omega) _ rfl ?_; intro g4 cap4 wa hown hgrow hat hlt4; have HWa := hide ((Below.step (unhide HW) (Below.alloc1 wr (.cells #[.int .i64 s] 3))).grown hgrow (by simp; omega) (fun g hg => ((unhide HR).lt g hg).1)); have HOW := hide hown; clear hown hgrow hat)
        go_roundg (20 - (s + 1))
        case measure => omega
        case rel => exact ⟨s + 1, by omega, rfl, by go_num, unhide HWa, ⟨_, _, _, rfl⟩, by rw [unhide EF, List.length_append]; exact hide (by have := unhide HOW; simpa [ints] using this)⟩
    · have hss : s = 20 := by omega
      subst hss
      have HW := hide hW
      clear hW
      go_wp2
      go_ret
      obtain ⟨a', n', cp', e', hsl⟩ := own_told1 (unhide HR) rfl
      exact ⟨_, _, _, by rw [e']; rfl, hsl, unhide HW⟩

end Go.Proofs.Ytkjikjeecjendaa
