/- A quay of channels in memory: words; contracts of quayOf and lie. -/
import Derived.Test.YtogoknldhimgfaaChW
import Derived.Test.YtogoknldhimgfaaQyM
import Derived.Test.YtogoknldhimgfaaBeB
import Derived.Test.YtogoknldhimgfaaRowK
import Derived.Test.YtogoknldhimgfaaSetC
namespace Go.Proofs.Ytogoknldhimgfaa
open Go.RowKit Go.Conc

/-- The channels' cells. -/
abbrev qyV (gq n : Nat) : List Value := (List.range n).map fun i => Value.chan (some (gq + 1 + i))
theorem qyV_len (gq n : Nat) : (qyV gq n).length = n := by simp [qyV]
theorem qyV_at {gq n i : Nat} (h : i < n) : (qyV gq n)[i]? = some (.chan (some (gq + 1 + i))) := by simp [qyV, h]
/-- A quay: its row, and its channels from K on: open, of one place, taken as B says. -/
structure Qy (W : World) (gq n K : Nat) (B : Nat → Bool) : Prop where
  row : OwnV W gq (qyV gq n)
  ch : ∀ i, K ≤ i → i < n → ∃ buf s r, W.heap[gq + 1 + i]? = some (.chan 1 buf false s r false) ∧ (B i = true → ∃ u, buf = #[u]) ∧ (B i = false → buf = #[])
  sz : gq + n < W.heap.size
/-- The quay's own channels. -/
abbrev qyT (gq n : Nat) : Nat → Prop := fun b => gq < b ∧ b ≤ gq + n
section
variable {W V : World} {gq n K : Nat} {B : Nat → Bool}
theorem Qy.kept {P : Nat → Prop} (h : Qy W gq n K B) (hk : Kept P W V) (hP : ∀ b, gq ≤ b → b ≤ gq + n → ¬ P b) : Qy V gq n K B := by
  refine ⟨h.row.kept hk (hP gq (Nat.le_refl _) (by omega)), fun i h1 h2 => ?_, Nat.lt_of_lt_of_le h.sz hk.size⟩
  obtain ⟨buf, s, r, e, f⟩ := h.ch i h1 h2
  exact ⟨buf, s, r, (hk.block _ (by have := h.sz; omega) (hP _ (by omega) (by omega))).trans e, f⟩
theorem Qy.step (h : Qy W gq n K B) (hb : Below W.heap.size W V) : Qy V gq n K B := h.kept (kept_of_below (T := fun _ => False) hb) (fun _ _ _ h => h)
theorem Qy.put (h : Qy W gq n K B) {i : Nat} (hi : i < n) (u : Value) (s r : Nat) : Qy (W.setChan (gq + 1 + i) 1 #[u] false s r false) gq n K (fun j => if j = i then true else B j) := by
  refine ⟨h.row.setChan (by omega) _ _ _ _ _ _, fun j h1 h2 => ?_, by rw [size_setCh]; exact h.sz⟩
  by_cases e : j = i
  · subst e
    exact ⟨_, s, r, heap_setChan W _ 1 _ false s r false (by have := h.sz; omega), fun _ => ⟨u, rfl⟩, fun hf => by simp at hf⟩
  · obtain ⟨buf, s', r', e', f⟩ := h.ch j h1 h2
    exact ⟨buf, s', r', (setChan_ne W _ _ _ _ _ _ (by omega)).trans e', by simpa [e] using f⟩
theorem Qy.take (h : Qy W gq n K B) {i : Nat} (hi : i < n) (s r : Nat) : Qy (W.setChan (gq + 1 + i) 1 #[] false s r false) gq n K (fun j => if j = i then false else B j) := by
  refine ⟨h.row.setChan (by omega) _ _ _ _ _ _, fun j h1 h2 => ?_, by rw [size_setCh]; exact h.sz⟩
  by_cases e : j = i
  · subst e
    exact ⟨_, s, r, heap_setChan W _ 1 _ false s r false (by have := h.sz; omega), fun hf => by simp at hf, fun _ => rfl⟩
  · obtain ⟨buf, s', r', e', f⟩ := h.ch j h1 h2
    exact ⟨buf, s', r', (setChan_ne W _ _ _ _ _ _ (by omega)).trans e', by simpa [e] using f⟩
theorem Qy.shut (h : Qy W gq n K B) (buf : Array Value) (c : Bool) (s r : Nat) : Qy (W.setChan (gq + 1 + K) 1 buf c s r false) gq n (K + 1) B := by
  refine ⟨h.row.setChan (by omega) _ _ _ _ _ _, fun j h1 h2 => ?_, by rw [size_setCh]; exact h.sz⟩
  obtain ⟨buf, s', r', e', f⟩ := h.ch j (by omega) h2
  exact ⟨buf, s', r', (setChan_ne W _ _ _ _ _ _ (by omega)).trans e', f⟩
end
theorem Try.infoBerth : (Try.prog.info? 111).map (fun i => (i.zero, i.size, i.bytes)) = some (some (Value.chan none), 1, 8) := by kernel_rfl
theorem mkBerth (w : World) : (Instr.makeChan 111 (.int .i64 1)).run Try.prog w = .ok (.chan (some w.heap.size)) (w.alloc (.chan 1 #[] false 0 0 false)) := by
  obtain ⟨i, hi, hb⟩ : ∃ i, Try.prog.info? 3 = some i ∧ i.bytes = 8 := by
    obtain ⟨i, h1, h2⟩ := Option.map_eq_some_iff.1 (show (Try.prog.info? 3).map (·.bytes) = some 8 by kernel_rfl)
    exact ⟨i, h1, h2⟩
  simpa using run_makeChan (P := Try.prog) (w := w) Try.underlying111 hi .i64 1 (by omega) (by rw [hb]; omega)
/-- The row while its first k channels have been made. -/
abbrev qyR (gq n k : Nat) : List Value := (List.range n).map fun i => if i < k then Value.chan (some (gq + 1 + i)) else .chan none
theorem qyR_full (gq n : Nat) : qyR gq n n = qyV gq n := by
  apply List.map_congr_left
  intro i hi
  rw [if_pos (List.mem_range.1 hi)]
theorem qyR_set {gq n k : Nat} (hk : k < n) : (qyR gq n k).set k (.chan (some (gq + 1 + k))) = qyR gq n (k + 1) := by
  apply List.ext_getElem?
  intro j
  rw [List.getElem?_set]
  by_cases hj : j < n
  · by_cases e : k = j
    · subst e; simp [hj]
    · rw [if_neg e]
      simp only [List.getElem?_map, List.getElem?_range hj, Option.map_some]
      congr 1
      by_cases c : j < k
      · rw [if_pos c, if_pos (by omega)]
      · rw [if_neg c, if_neg (by omega)]
  · by_cases e : k = j
    · omega
    · rw [if_neg e]; simp [hj]

set_option maxRecDepth 100000 in
set_option maxHeartbeats 4000000 in
theorem quayOf_any (long : Nat) (w : World) (h1 : 1 ≤ long) (h2 : long ≤ 1000) :
    Calls Try.prog 60 #[.int .i64 (long : Int)] w fun e w' => e = .returned (.slice (some ⟨w.heap.size, 0, none⟩) (long + 1) (long + 1)) ∧ Qy w' w.heap.size (long + 1) 0 (fun _ => false) ∧ Below w.heap.size w w' := by
  obtain ⟨n, en⟩ : ∃ n, n = long + 1 := ⟨_, rfl⟩
  have hmk := run_make_row' (P := Try.prog) 84 111 (.chan none) 8 Try.underlying84 Try.infoBerth rfl .i64 .i64 n (by omega) (by omega)
  have hmc := mkBerth
  have q1 : IntKind.i64.wrap ((long : Int) + 1) = (n : Int) := by rw [IntKind.wrap_i64]; omega
  have q2 : (long : Int) + 1 = (n : Int) := by omega
  have HW0 := hide (Below.alloc1 w (.cells (madeCells #[.chan none] n) 111))
  have HR0 : Hid (OwnV (w.alloc (.cells (madeCells #[.chan none] n) 111)) w.heap.size (qyR w.heap.size n 0)) := by
    have h9 := ownV_alloc w (madeCells #[.chan none] n) 111
    have e : (madeCells #[Value.chan none] n).toList = qyR w.heap.size n 0 := by
      apply List.ext_getElem?
      intro i
      by_cases h : i < n
      · simp [madeCells, qyR, h, Nat.mod_one]
      · simp [madeCells, qyR, h]
    rw [e] at h9
    exact h9
  rw [← en]
  have hn1 : n ≤ 1001 := by omega
  clear h1 h2 en
  go_enter Try.func60, Try.ntmps60
  go_wp2
  obtain ⟨W1, eW⟩ : ∃ W, W = w.alloc (.cells (madeCells #[.chan none] n) 111) := ⟨_, rfl⟩
  have hsz : W1.heap.size = w.heap.size + 1 := by rw [eW, World.size_alloc]
  rw [← eW] at HW0 HR0 ⊢
  obtain ⟨gq, eg⟩ : ∃ g, g = w.heap.size := ⟨_, rfl⟩
  rw [← eg] at HR0 hsz ⊢
  have HEG := hide eg
  have HSZ := hide hsz
  clear eW hmk eg hsz q1 q2
  go_loopg [10] n (fun gg iv wr => ∃ k : Nat, k ≤ n ∧ gg = n - k ∧ iv = .int .i64 k ∧ Hid (Below w.heap.size w wr) ∧ Hid (OwnV wr gq (qyR gq n k)) ∧ Hid (wr.heap.size = gq + 1 + k) ∧ Hid (∀ i, i < k → wr.heap[gq + 1 + i]? = some (.chan 1 #[] false 0 0 false)))
  case atStart => exact ⟨0, Nat.zero_le _, rfl, rfl, HW0, HR0, HSZ, fun i hi => by omega⟩
  case round =>
    clear HW0 HR0 HSZ
    obtain ⟨k, hk, rfl, rfl, HW, HR, HSZ, HC⟩ := hrel
    by_cases hkn : k < n
    · have hki : (k : Int) < n := by omega
      have A := Below.alloc1 wr (.chan 1 #[] false 0 0 false)
      have esz := unhide HSZ
      have HR1 := hide ((unhide HR).step A)
      obtain ⟨c9, hc9⟩ : ∃ v, (qyR gq n k)[k]? = some v := ⟨_, List.getElem?_eq_getElem (by simpa [qyR] using hkn)⟩
      have ck := (unhide HR1).cell hc9
      have fz := (unhide HR1).frozen k
      have HR2 := hide ((unhide HR1).set k (.chan (some (gq + 1 + k))) (by simpa [qyR] using hkn))
      rw [qyR_set hkn] at HR2
      have HW2 := hide (Below.setCell (p := ⟨gq, k, none⟩) (Below.step (unhide HW) A) (by have := unhide HEG; show w.heap.size ≤ gq; omega) (.chan (some (gq + 1 + k))))
      have HS2 : Hid (((wr.alloc (.chan 1 #[] false 0 0 false)).setCell ⟨gq, k, none⟩ (.chan (some (gq + 1 + k)))).heap.size = gq + 1 + (k + 1)) := by
        show _ = _
        rw [World.size_setCell, World.size_alloc, esz]; omega
      have HC2 : Hid (∀ i, i < k + 1 → ((wr.alloc (.chan 1 #[] false 0 0 false)).setCell ⟨gq, k, none⟩ (.chan (some (gq + 1 + k)))).heap[gq + 1 + i]? = some (.chan 1 #[] false 0 0 false)) := fun i hi => by
        rw [Below.heap_setCell _ _ _ _ (by show gq + 1 + i ≠ gq; omega)]
        by_cases e : i = k
        · subst e
          have := Go.Deep.blk_alloc_new wr (.chan 1 #[] false 0 0 false)
          rw [esz] at this
          exact this
        · rw [A.block _ (by omega)]
          exact unhide HC i (by omega)
      have hmc2 : (Instr.makeChan 111 (.int .i64 1)).run Try.prog wr = .ok (.chan (some (gq + 1 + k))) (wr.alloc (.chan 1 #[] false 0 0 false)) := by rw [mkBerth, esz]
      clear HR1 HW HR HC A esz hmc
      go_wp2
      go_roundg (n - (k + 1))
      case measure => omega
      case rel => exact ⟨k + 1, by omega, rfl, by go_num, HW2, HR2, HS2, HC2⟩
    · obtain rfl : k = n := by omega
      rw [qyR_full] at HR
      go_wp2
      refine bodyPost_ret (v := .slice (some ⟨gq, 0, none⟩) k k) (by simp [results, Try.results60, go_sem]) rfl ⟨by rw [unhide HEG], ?_, unhide HW⟩
      rw [← unhide HEG]
      exact ⟨unhide HR, fun i _ hi => ⟨#[], 0, 0, unhide HC i hi, (fun h => by cases h), fun _ => rfl⟩, by rw [unhide HSZ]; omega⟩

set_option maxRecDepth 100000 in
set_option maxHeartbeats 4000000 in
theorem lie_any (gq n p m : Nat) (id fr tt : Int) (B : Nat → Bool) (w : World) (h : Qy w gq n 0 B) (hm : 1 ≤ m) (hp : p + m ≤ n) (hn : n ≤ 1001) :
    Calls Try.prog 62 #[.slice (some ⟨gq, 0, none⟩) n n, vCall id (m : Int) fr tt (p : Int)] w fun e w' => e = .returned (.bool (freeB B p m)) ∧ Qy w' gq n 0 (covB B p m) ∧ Kept (qyT gq n) w w' := by
  have A := Below.alloc1 w (.cells #[.int .i64 id, .int .i64 (m : Int), .int .i64 fr, .int .i64 tt, .int .i64 (p : Int)] 31)
  have HO := hide (ownV_alloc w #[.int .i64 id, .int .i64 (m : Int), .int .i64 fr, .int .i64 tt, .int .i64 (p : Int)] 31)
  have HQ0 := hide (h.step A)
  have HK0 := hide (kept_of_below (T := qyT gq n) A)
  have hgs := h.sz
  rw [← covB_zero B p] at HQ0
  obtain ⟨gb, egb⟩ : ∃ g, g = w.heap.size := ⟨_, rfl⟩
  have hgb : gq + n < gb := by omega
  rw [← egb] at HO
  obtain ⟨e0, ee0⟩ : ∃ e : Nat, e = p + m := ⟨_, rfl⟩
  have q1 : IntKind.i64.wrap ((p : Int) + (m : Int)) = (e0 : Int) := by rw [IntKind.wrap_i64]; omega
  have q2 : (p : Int) + (m : Int) = (e0 : Int) := by omega
  have hpe : (p : Int) ≤ (e0 : Int) := by omega
  have hen : (e0 : Int) ≤ (n : Int) := by omega
  have HE := hide ee0
  clear h A ee0 hgs
  unfold vCall
  go_enter Try.func62, Try.ntmps62
  go_wp2
  have q3 : e0 - p = m := by have := unhide HE; omega
  rw [q3]
  obtain ⟨W1, eW⟩ : ∃ W, W = w.alloc (.cells #[.int .i64 id, .int .i64 (m : Int), .int .i64 fr, .int .i64 tt, .int .i64 (p : Int)] 31) := ⟨_, rfl⟩
  rw [← eW] at HO HQ0 HK0 ⊢
  rw [← egb]
  clear q1 q2 q3 eW egb hpe hen HE
  go_loopg [5, 18] m (fun gg fv iv wr => ∃ k : Nat, k ≤ m ∧ gg = m - k ∧ iv = .int .i64 k ∧ fv = .bool (freeB B p k) ∧ Hid (Qy wr gq n 0 (covB B p k)) ∧ Hid (Kept (qyT gq n) w wr) ∧ Hid (OwnV wr gb [.int .i64 id, .int .i64 (m : Int), .int .i64 fr, .int .i64 tt, .int .i64 (p : Int)]))
  case atStart => exact ⟨0, Nat.zero_le _, rfl, rfl, rfl, HQ0, HK0, HO⟩
  case round =>
    clear HQ0 HK0 HO
    obtain ⟨k, hk, rfl, rfl, rfl, HQ, HK, HO⟩ := hrel
    by_cases hkm : k < m
    · have hki : (k : Int) < m := by omega
      obtain ⟨buf, s, r, hh, ht, hf⟩ := (unhide HQ).ch (p + k) (Nat.zero_le _) (by omega)
      have hB : covB B p k (p + k) = B (p + k) := by unfold covB; simp
      rw [hB] at ht hf
      have c9 := (unhide HQ).row.cell (qyV_at (i := p + k) (by omega))
      have c0 := (unhide HO).cell (i := 0) rfl
      have HN : Hid (freeB B p (k + 1) = (freeB B p k && !(B (p + k)))) := rfl
      have HHH := hide hh
      cases hb : B (p + k) with
      | false =>
        have e1 := hf hb
        subst e1
        have Q1 := hide (takeFree_any (gq + 1 + (p + k)) s r id wr hh)
        have HQ2 := hide ((unhide HQ).put (i := p + k) (by omega) (.int .i64 id) (s + 1) r)
        rw [covB_next] at HQ2
        have HK2 := hide ((unhide HK).setChan (c := gq + 1 + (p + k)) (by constructor <;> omega) 1 #[.int .i64 id] false (s + 1) r false)
        have HO2 := hide ((unhide HO).setChan (c := gq + 1 + (p + k)) (by omega) 1 #[.int .i64 id] false (s + 1) r false)
        rw [hb] at HN
        clear ht hf hB hb hh HQ HK HO HHH
        generalize freeB B p k = fb at *
        go_wp2_with fail
        refine (unhide Q1).mono ?_
        rintro e w2 ⟨rfl, h9⟩
        rw [← h9] at HQ2 HK2 HO2
        clear h9 Q1 c9 c0
        go_wp2
        go_roundg (m - (k + 1))
        case measure => omega
        case rel => exact ⟨k + 1, by omega, rfl, by go_num, by rw [unhide HN]; simp, HQ2, HK2, HO2⟩
      | true =>
        obtain ⟨u, e1⟩ := ht hb
        subst e1
        have Q1 := hide (takeFull_any (gq + 1 + (p + k)) s r u id wr hh)
        rw [← covB_same hb] at HQ
        rw [hb] at HN
        clear ht hf hB hb hh HHH
        generalize freeB B p k = fb at *
        go_wp2_with fail
        refine (unhide Q1).mono ?_
        rintro e w2 ⟨rfl, h9⟩
        have h8 := h9.symm
        subst h8
        clear h9 Q1 c9 c0
        go_wp2
        go_roundg (m - (k + 1))
        case measure => omega
        case rel => exact ⟨k + 1, by omega, rfl, by go_num, by rw [unhide HN]; simp, HQ, HK, HO⟩
    · obtain rfl : k = m := by omega
      go_wp2
      go_ret
      exact ⟨rfl, unhide HQ, unhide HK⟩

end Go.Proofs.Ytogoknldhimgfaa
