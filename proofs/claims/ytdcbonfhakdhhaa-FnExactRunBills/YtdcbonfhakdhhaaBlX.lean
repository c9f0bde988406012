/- Books of the call's own: words; contracts of the laws' own toBill, toBillS, toBook, eqBill, eqBillS, eqBook. No statement about the program stands here. -/
import Derived.Test.YtdcbonfhakdhhaaBlW
import Derived.Test.YtdcbonfhakdhhaaGrow
namespace Go.Proofs.Ytdcbonfhakdhhaa
open Go.RowKit

/-- A bill, the block of the list of its holders and its capacity. -/
abbrev EBl := BlT × Nat × Nat
def eBl (x : EBl) : Nat → Value
  | 0 => .int .i64 x.1.1
  | 1 => .string x.1.2.1
  | 2 => .string x.1.2.2.1
  | 3 => .int .i64 x.1.2.2.2.1
  | _ => .slice (some ⟨x.2.1, 0, none⟩) x.1.2.2.2.2.length x.2.2
/-- The lists of holders of E: each in a block of its own among A, none twice, none in block g. -/
structure OwnH (A : Nat → Prop) (w : World) (g : Nat) (E : List EBl) : Prop where
  own : ∀ x ∈ E, OwnV w x.2.1 (strs x.1.2.2.2.2) ∧ A x.2.1 ∧ x.2.1 ≠ g ∧ x.1.2.2.2.2.length ≤ x.2.2 ∧ x.2.2 ≤ maxLen
  apart : (E.map (·.2.1)).Nodup
/-- Bills of the call's own: all blocks among A. -/
def OwnE (A : Nat → Prop) (w : World) (v : Value) (E : List EBl) : Prop :=
  ∃ ao cap, v = .slice ao E.length cap ∧ E.length ≤ cap ∧ cap ≤ maxLen ∧ (E ≠ [] → ∃ g, ao = some ⟨g, 0, none⟩ ∧ A g ∧ OwnV w g (recCells 5 eBl E) ∧ OwnH A w g E)
abbrev bills (E : List EBl) : List BlT := E.map (·.1)

section
variable {A : Nat → Prop} {w w' : World} {g : Nat} {E : List EBl} {v : Value}
theorem OwnH.kept {T : Nat → Prop} (h : OwnH A w g E) (hk : Kept T w w') (hT : ∀ x ∈ E, ¬ T x.2.1) : OwnH A w' g E :=
  ⟨fun x hx => ⟨(h.own x hx).1.kept hk (hT x hx), (h.own x hx).2⟩, h.apart⟩
theorem OwnH.step (h : OwnH A w g E) (hb : Below w.heap.size w w') : OwnH A w' g E := h.kept (T := fun _ => False) (kept_of_below hb) (fun _ _ h => h)
theorem OwnH.mono {A' : Nat → Prop} (h : OwnH A w g E) (hA : ∀ k, k < w.heap.size → A k → A' k) : OwnH A' w g E :=
  ⟨fun x hx => ⟨(h.own x hx).1, hA _ (h.own x hx).1.lt (h.own x hx).2.1, (h.own x hx).2.2⟩, h.apart⟩
theorem OwnE.kept {T : Nat → Prop} (h : OwnE A w v E) (hk : Kept T w w') (hT : ∀ k, A k → ¬ T k) : OwnE A w' v E := by
  obtain ⟨ao, cap, rfl, h1, h2, h3⟩ := h
  refine ⟨ao, cap, rfl, h1, h2, fun hne => ?_⟩
  obtain ⟨g, rfl, hA, hO, hH⟩ := h3 hne
  exact ⟨g, rfl, hA, hO.kept hk (hT g hA), hH.kept hk fun x hx => hT _ (hH.own x hx).2.1⟩
theorem OwnE.step (h : OwnE A w v E) (hb : Below w.heap.size w w') : OwnE A w' v E := h.kept (T := fun _ => False) (kept_of_below hb) (fun _ _ h => h)
theorem OwnE.mono {A' : Nat → Prop} (h : OwnE A w v E) (hA : ∀ k, k < w.heap.size → A k → A' k) : OwnE A' w v E := by
  obtain ⟨ao, cap, rfl, h1, h2, h3⟩ := h
  refine ⟨ao, cap, rfl, h1, h2, fun hne => ?_⟩
  obtain ⟨g, rfl, hAg, hO, hH⟩ := h3 hne
  exact ⟨g, rfl, hA _ hO.lt hAg, hO, hH.mono hA⟩
theorem OwnH.in' (h : OwnH A w g E) {cap : Nat} (ho : OwnV w g (recCells 5 eBl E)) (hc : E.length ≤ cap) (hm : cap ≤ maxLen) : BlsIn w (.slice (some ⟨g, 0, none⟩) E.length cap) (bills E) := by
  refine ⟨some ⟨g, 0, none⟩, cap, by simp, by simpa using hc, hm, fun i hi => ?_⟩
  rw [List.length_map] at hi
  have hcell : ∀ j, j < 5 → w.cell? ⟨g, i * 5 + j, none⟩ = some (eBl (E.getD i default) j) := fun j hj => ho.cell (recCells_get hi hj)
  have hx : E.getD i default ∈ E := by rw [getD_lt hi]; exact List.getElem_mem _
  have he : (bills E).getD i default = (E.getD i default).1 := by
    rw [getD_lt (show i < (bills E).length by simpa using hi), getD_lt hi]
    simp
  obtain ⟨q1, q2, q3, q4, q5⟩ := h.own _ hx
  rw [he]
  generalize E.getD i default = x at *
  have c0 := hcell 0 (by omega)
  have c1 := hcell 1 (by omega)
  have c2 := hcell 2 (by omega)
  have c3 := hcell 3 (by omega)
  have c4 := hcell 4 (by omega)
  exact ⟨g, 0, some ⟨x.2.1, 0, none⟩, x.2.2, rfl, by rw [Nat.zero_add]; exact c0, by rw [Nat.zero_add]; exact c1, by rw [Nat.zero_add]; exact c2, by rw [Nat.zero_add]; exact c3, by rw [Nat.zero_add]; exact c4, OwnV.cIn q1 q4 q5⟩
theorem OwnE.in' (h : OwnE A w v E) : BlsIn w v (bills E) := by
  obtain ⟨ao, cap, rfl, h1, h2, h3⟩ := h
  by_cases hne : E = []
  · subst hne
    exact ⟨ao, cap, rfl, h1, h2, fun i hi => by simp at hi⟩
  · obtain ⟨g, rfl, hA, hO, hH⟩ := h3 hne
    exact hH.in' hO h1 h2
end

set_option maxRecDepth 10000 in
set_option maxHeartbeats 1600000 in
theorem toBill_any (id : Int) (sh od : ByteArray) (mn : Int) (na : Option Addr) (nn nc : Nat) (H : List ByteArray) (w : World) (hN : SIn w (.slice na nn nc) H) (hsN : H.length ≤ 1048576) :
    Calls Try.prog 81 #[vBill id sh od mn (.slice na nn nc)] w fun e w' => ∃ g, e = .returned (vBill id sh od mn (.slice (some ⟨g, 0, none⟩) H.length H.length)) ∧ w.heap.size ≤ g ∧ OwnV w' g (strs H) ∧ Below w.heap.size w w' := by
  have HN := hide hN
  have HH := hide (b3_new w #[.int .i64 id, .string sh, .string od, .int .i64 mn, .slice na nn nc] #[.int .i64 0, .string ⟨#[]⟩, .string ⟨#[]⟩, .int .i64 0, .slice none 0 0] #[.int .i64 id, .string sh, .string od, .int .i64 mn, .slice none 0 0] 111 40 40)
  clear hN
  unfold vBill
  go_enter Try.func81, Try.ntmps81
  go_wp2_with fail
  refine (toStringS_o _ H _ ((unhide HN).below (unhide HH).below) hsN).mono ?_
  rintro e w2 ⟨g2, rfl, hg2, hO2, hb⟩
  have hg := (unhide HH).o3.lt
  replace HH := hide ((unhide HH).step hb)
  have HO2 := hide hO2
  have hg3 : w.heap.size + 1 + 1 < g2 := by omega
  clear hb hO2 hg2 hg HN
  have c0 := (unhide HH).o3.cell (i := 0) rfl
  have c1 := (unhide HH).o3.cell (i := 1) rfl
  have c2 := (unhide HH).o3.cell (i := 2) rfl
  have c3 := (unhide HH).o3.cell (i := 3) rfl
  have c4 := (unhide HH).o3.cell (i := 4) rfl
  have cf := (unhide HH).o3.frozen
  have HH1 := hide ((unhide HH).put3 4 (.slice (some ⟨g2, 0, none⟩) H.length H.length) (by simp))
  have e0 := (unhide HH1).o3.cell (i := 0) rfl
  have e1 := (unhide HH1).o3.cell (i := 1) rfl
  have e2 := (unhide HH1).o3.cell (i := 2) rfl
  have e3 := (unhide HH1).o3.cell (i := 3) rfl
  have e4 := (unhide HH1).o3.cell (i := 4) rfl
  have d0 := (unhide HH1).o2.cell (i := 0) rfl
  have d1 := (unhide HH1).o2.cell (i := 1) rfl
  have d2 := (unhide HH1).o2.cell (i := 2) rfl
  have d3 := (unhide HH1).o2.cell (i := 3) rfl
  have d4 := (unhide HH1).o2.cell (i := 4) rfl
  have df := (unhide HH1).o2.frozen
  have HH2 := hide ((((((unhide HH1).put2 0 (.int .i64 id) (by simp)).put2 1 (.string sh) (by simp)).put2 2 (.string od) (by simp)).put2 3 (.int .i64 mn) (by simp)).put2 4 (.slice (some ⟨g2, 0, none⟩) H.length H.length) (by simp))
  have hq2 : g2 ≠ w.heap.size + 1 + 1 := by omega
  have hq4 : g2 ≠ w.heap.size + 1 := by omega
  have HO2' := hide (farN (farN (farN (farN (farN (farN (unhide HO2) hq2 4 (.slice (some ⟨g2, 0, none⟩) H.length H.length)) hq4 0 (.int .i64 id)) hq4 1 (.string sh)) hq4 2 (.string od)) hq4 3 (.int .i64 mn)) hq4 4 (.slice (some ⟨g2, 0, none⟩) H.length H.length))
  have hn1 : ¬ w.heap.size + 1 = w.heap.size + 1 + 1 := by omega
  have hn2 : ¬ w.heap.size + 1 + 1 = w.heap.size + 1 := by omega
  go_wp2
  have k0 := (unhide HH2).o2.cell (i := 0) rfl
  have k1 := (unhide HH2).o2.cell (i := 1) rfl
  have k2 := (unhide HH2).o2.cell (i := 2) rfl
  have k3 := (unhide HH2).o2.cell (i := 3) rfl
  have k4 := (unhide HH2).o2.cell (i := 4) rfl
  refine bodyPost_ret (v := vBill id sh od mn (.slice (some ⟨g2, 0, none⟩) H.length H.length)) (by simp [results, Try.results81, go_sem, vBill, k0, k1, k2, k3, k4]) rfl ⟨g2, rfl, by omega, unhide HO2', (unhide HH2).below⟩

theorem FillC.congr {α : Type} [Inhabited α] {n : Nat} {enc : α → Nat → Value} {w wr : World} {L L' : List α} {k : Nat} (h : FillC n enc w wr L (k * n)) (hl : L'.length = L.length) (he : ∀ r, r < k → L'.getD r default = L.getD r default) : FillC n enc w wr L' (k * n) := by
  obtain ⟨h0, c, t, h1, h2, h3⟩ := h
  refine ⟨h0, c, t, h1, by rw [hl]; exact h2, fun q hq => ?_⟩
  have : q / n < k := Nat.div_lt_of_lt_mul (by rw [Nat.mul_comm]; exact hq)
  rw [h3 q hq, he _ this]
/-- E, filled up to n. -/
def padE (n : Nat) (E : List EBl) : List EBl := (List.range n).map fun i => E.getD i default
theorem padE_len (n : Nat) (E : List EBl) : (padE n E).length = n := by simp [padE]
theorem padE_get {n i : Nat} (E : List EBl) (hi : i < n) : (padE n E).getD i default = E.getD i default := by simp [padE, List.getD, hi]
theorem padE_all (E : List EBl) : padE E.length E = E := by
  apply List.ext_getElem
  · simp [padE]
  · intro i h1 h2
    simp [padE, List.getD, h2]
/-- So far the bills E are filled in, of n. -/
structure FillE (w wr : World) (n : Nat) (E : List EBl) : Prop where
  fill : FillC 5 eBl w wr (padE n E) (E.length * 5)
  own : OwnH (fun b => w.heap.size ≤ b) wr w.heap.size E
theorem FillE.grow {w wr w1 : World} {n : Nat} {E : List EBl} (h : FillE w wr n E) (hb : Below wr.heap.size wr w1) : FillE w w1 n E := ⟨h.fill.grow hb, h.own.step hb⟩
theorem FillE.next {w wr : World} {n : Nat} {E : List EBl} (h : FillE w wr n E) (hk : E.length < n) {g : Nat} {id : Int} {sh od : ByteArray} {mn : Int} {H : List ByteArray} (hg : ∀ x ∈ E, x.2.1 ≠ g) (hg0 : w.heap.size < g) (ho : OwnV wr g (strs H)) (hH : H.length ≤ 1048576) :
    FillE w (((((wr.setCell ⟨w.heap.size, E.length * 5, none⟩ (.int .i64 id)).setCell ⟨w.heap.size, E.length * 5 + 1, none⟩ (.string sh)).setCell ⟨w.heap.size, E.length * 5 + 2, none⟩ (.string od)).setCell ⟨w.heap.size, E.length * 5 + 3, none⟩ (.int .i64 mn)).setCell ⟨w.heap.size, E.length * 5 + 4, none⟩ (.slice (some ⟨g, 0, none⟩) H.length H.length)) n (E ++ [((id, sh, od, mn, H), g, H.length)]) := by
  have f0 : FillC 5 eBl w wr (padE n (E ++ [((id, sh, od, mn, H), g, H.length)])) (E.length * 5) := h.fill.congr (by rw [padE_len, padE_len]) fun r hr => by
    rw [padE_get _ (by omega), padE_get _ (by omega), getD_snoc, if_pos hr]
  have hx : (padE n (E ++ [((id, sh, od, mn, H), g, H.length)])).getD E.length default = ((id, sh, od, mn, H), g, H.length) := by
    rw [padE_get _ hk, getD_snoc, if_neg (by omega), if_pos rfl]
  have hl : E.length * 5 + 4 < (padE n (E ++ [((id, sh, od, mn, H), g, H.length)])).length * 5 := by rw [padE_len]; omega
  have s0 := f0.set (v := .int .i64 id) (by omega) (by rw [show (E.length * 5) / 5 = E.length by omega, show (E.length * 5) % 5 = 0 by omega, hx]; rfl)
  have s1 := s0.set (v := .string sh) (by omega) (by rw [show (E.length * 5 + 1) / 5 = E.length by omega, show (E.length * 5 + 1) % 5 = 1 by omega, hx]; rfl)
  have s2 := s1.set (v := .string od) (by omega) (by rw [show (E.length * 5 + 1 + 1) / 5 = E.length by omega, show (E.length * 5 + 1 + 1) % 5 = 2 by omega, hx]; rfl)
  have s3 := s2.set (v := .int .i64 mn) (by omega) (by rw [show (E.length * 5 + 1 + 1 + 1) / 5 = E.length by omega, show (E.length * 5 + 1 + 1 + 1) % 5 = 3 by omega, hx]; rfl)
  have s4 := s3.set (v := .slice (some ⟨g, 0, none⟩) H.length H.length) (by omega) (by rw [show (E.length * 5 + 1 + 1 + 1 + 1) / 5 = E.length by omega, show (E.length * 5 + 1 + 1 + 1 + 1) % 5 = 4 by omega, hx]; rfl)
  have far : ∀ (x : Nat) (vs : List Value), w.heap.size ≠ x → OwnV wr x vs → OwnV (((((wr.setCell ⟨w.heap.size, E.length * 5, none⟩ (.int .i64 id)).setCell ⟨w.heap.size, E.length * 5 + 1, none⟩ (.string sh)).setCell ⟨w.heap.size, E.length * 5 + 2, none⟩ (.string od)).setCell ⟨w.heap.size, E.length * 5 + 3, none⟩ (.int .i64 mn)).setCell ⟨w.heap.size, E.length * 5 + 4, none⟩ (.slice (some ⟨g, 0, none⟩) H.length H.length)) x vs := fun x vs hx ho =>
    farN (farN (farN (farN (farN ho (by omega) _ _) (by omega) _ _) (by omega) _ _) (by omega) _ _) (by omega) _ _
  refine ⟨by rw [List.length_append, show (E.length + [((id, sh, od, mn, H), g, H.length)].length) * 5 = E.length * 5 + 1 + 1 + 1 + 1 + 1 by simp; omega]; exact s4, fun x hx => ?_, ?_⟩
  · rcases List.mem_append.1 hx with hx | hx
    · obtain ⟨q1, q2, q3, q4⟩ := h.own.own x hx
      exact ⟨far _ _ (by omega) q1, q2, q3, q4⟩
    · rw [List.mem_singleton.1 hx]
      exact ⟨far _ _ (Nat.ne_of_lt hg0) ho, Nat.le_of_lt hg0, Nat.ne_of_gt hg0, Nat.le_refl _, by show H.length ≤ maxLen; unfold maxLen; omega⟩
  · rw [List.map_append, List.nodup_append]
    refine ⟨h.own.apart, by simp, fun a ha b hb e => ?_⟩
    obtain ⟨x, hx, rfl⟩ := List.mem_map.1 ha
    simp only [List.map_cons, List.map_nil, List.mem_singleton] at hb
    exact hg x hx (e.trans hb)

theorem Try.infoBill : (Try.prog.info? 40).map (fun i => (i.zero, i.size, i.bytes)) = some (some (vBill 0 ⟨#[]⟩ ⟨#[]⟩ 0 (.slice none 0 0)), 5, 72) := by kernel_rfl

theorem take_snoc {L : List BlT} {E : List EBl} {x : EBl} (he : bills E = L.take E.length) (hk : E.length < L.length) (hx : L.getD E.length default = x.1) : bills (E ++ [x]) = L.take (E ++ [x]).length := by
  rw [bills, List.map_append, List.length_append, List.length_singleton, List.take_add_one, ← he]
  congr 1
  rw [List.getElem?_eq_getElem hk, ← getD_lt (d := default) hk, hx]
  rfl

set_option maxHeartbeats 1600000 in
theorem toBillS_any (v : Value) (L : List BlT) (w : World) (h : BlsIn w v L) (hs : L.length ≤ 1048576) (hl : ∀ i, i < L.length → (L.getD i default).2.2.2.2.length ≤ 1048576) :
    Calls Try.prog 51 #[v] w fun e w' => ∃ v' E, e = .returned v' ∧ bills E = L ∧ OwnE (fun b => w.heap.size ≤ b) w' v' E ∧ Below w.heap.size w w' := by
  have h' := h
  obtain ⟨ao, cap, rfl, hlc, hm, -⟩ := h'
  have HC := hide h
  have HL := hide hl
  clear h hl hlc hm
  have hmk := run_make_recs (P := Try.prog) 24 40 _ 5 72 Try.underlying24 Try.infoBill .i64 .i64 L.length (by omega) (by omega)
  go_enter Try.func51, Try.ntmps51
  go_wp2
  clear hmk
  go_loopg [4] L.length (fun g i wr => ∃ (k : Nat) (E : List EBl), k ≤ L.length ∧ g = L.length - k ∧ i = .int .i64 k ∧ Hid (E.length = k) ∧ Hid (bills E = L.take E.length) ∧ FillE w wr L.length E)
  case atStart =>
    refine ⟨0, [], Nat.zero_le _, rfl, rfl, rfl, (rfl : _ = _), ⟨?_, fun x hx => by simp at hx, by simp⟩⟩
    have st : ∀ z t, FillC 5 eBl w (w.alloc (.cells (madeCells z (L.length * 5)) t)) (padE L.length []) 0 := fun z t => by
      have := FillC.start (n := 5) (enc := eBl) w (padE L.length []) z t
      rw [padE_len] at this
      exact this
    exact st _ _
  case round =>
    obtain ⟨k, E, hk, rfl, rfl, EK, EB, hF⟩ := hrel
    by_cases hkn : k < L.length
    · have hkl := unhide HL k hkn
      obtain ⟨b, o, na, nc, id, sh, od, mn, H, m, rfl, hc0, hc1, hc2, hc3, hc4, hr, EX, EM, hm0⟩ := (unhide HC).at hkn
      rw [unhide EX] at hkl
      have HT := hide fun V (hV : Below w.heap.size w V) => toBill_any id sh od mn na _ nc H V (hr.below hV) hkl
      have g0 := wcell3 hc0 hF.fill.below
      have g1 := wcell3 hc1 hF.fill.below
      have g2 := wcell3 hc2 hF.fill.below
      have g3 := wcell3 hc3 hF.fill.below
      have g4 := wcell3 hc4 hF.fill.below
      have HF := hide hF
      unfold vBill at HT
      clear hc0 hc1 hc2 hc3 hc4 hr hF
      have HKL := hide hkl
      clear hkl
      go_wp2_with fail
      refine (unhide HT _ (unhide HF).fill.below).mono ?_
      rintro e w1 ⟨gn, rfl, hgn, hon, hb⟩
      have hlt := (unhide HF).fill.lt
      have HG : Hid (∀ x ∈ E, x.2.1 ≠ gn) := fun x hx e => by
        have := ((unhide HF).own.own x hx).1.lt
        omega
      have hF1 := (unhide HF).grow hb
      have hf := hF1.fill.frozen
      have EK' := unhide EK
      obtain ⟨u0', hu0⟩ := hF1.fill.cell (q := k * 5) (by rw [padE_len]; omega)
      obtain ⟨u1', hu1⟩ := hF1.fill.cell (q := k * 5 + 1) (by rw [padE_len]; omega)
      obtain ⟨u2', hu2⟩ := hF1.fill.cell (q := k * 5 + 2) (by rw [padE_len]; omega)
      obtain ⟨u3', hu3⟩ := hF1.fill.cell (q := k * 5 + 3) (by rw [padE_len]; omega)
      obtain ⟨u4', hu4⟩ := hF1.fill.cell (q := k * 5 + 4) (by rw [padE_len]; omega)
      have hgn' : w.heap.size < gn := by omega
      have HN := hide (hF1.next (id := id) (sh := sh) (od := od) (mn := mn) (by omega) (unhide HG) hgn' hon (unhide HKL))
      rw [EK'] at HN
      have HB2 := hide (take_snoc (x := ((id, sh, od, mn, H), gn, H.length)) (unhide EB) (by omega) (by rw [EK']; exact unhide EX))
      clear hb HF hF1 HT hon hgn hlt EK'
      go_wp2
      go_roundg (L.length - (k + 1))
      case measure => omega
      case rel => exact ⟨k + 1, _, by omega, rfl, by go_num, (by show (E ++ [_]).length = _; rw [List.length_append, unhide EK]; rfl), HB2, unhide HN⟩
    · have hkk : k = L.length := by omega
      subst hkk
      go_wp2
      go_ret
      have hd := hF.fill
      have he := unhide EB
      rw [unhide EK, List.take_length] at he
      rw [← unhide EK, padE_all] at hd
      refine ⟨_, E, rfl, he, ⟨some ⟨w.heap.size, 0, none⟩, L.length, by rw [unhide EK]; rfl, by rw [unhide EK]; exact Nat.le_refl _, by unfold maxLen; omega, fun _ => ⟨_, rfl, Nat.le_refl _, hd.done, hF.own⟩⟩, hF.fill.below⟩

/-- A book of the call's own: all blocks among A, those of the freed numbers apart from those of the bills. -/
structure OwnB (A : Nat → Prop) (w : World) (bv fv : Value) (E : List EBl) (F : List Int) : Prop where
  bls : OwnE A w bv E
  frd : ∃ ao cap, fv = .slice ao F.length cap ∧ F.length ≤ cap ∧ cap ≤ maxLen ∧ (F ≠ [] → ∃ f, ao = some ⟨f, 0, none⟩ ∧ A f ∧ OwnV w f (ints F) ∧ (∀ x ∈ E, x.2.1 ≠ f) ∧ (E ≠ [] → ∀ g cp, bv ≠ .slice (some ⟨f, g, none⟩) E.length cp))
theorem OwnB.inn {A : Nat → Prop} {w : World} {bv fv : Value} {E : List EBl} {F : List Int} (h : OwnB A w bv fv E F) : BkIn w bv fv (bills E, F) := by
  refine ⟨h.bls.in', ?_⟩
  obtain ⟨ao, cap, rfl, h1, h2, h3⟩ := h.frd
  refine ⟨ao, cap, rfl, h1, h2, fun i hi => ?_⟩
  obtain ⟨g, rfl, _, ho, _⟩ := h3 (fun e => by dsimp only at hi; rw [e] at hi; simp at hi)
  exact ⟨g, 0, rfl, by rw [Nat.zero_add]; exact ho.cell (ints_get F hi)⟩
theorem OwnB.kept {A T : Nat → Prop} {w w' : World} {bv fv : Value} {E : List EBl} {F : List Int} (h : OwnB A w bv fv E F) (hk : Kept T w w') (hT : ∀ k, A k → ¬ T k) : OwnB A w' bv fv E F := by
  refine ⟨h.bls.kept hk hT, ?_⟩
  obtain ⟨ao, cap, rfl, h1, h2, h3⟩ := h.frd
  refine ⟨ao, cap, rfl, h1, h2, fun hne => ?_⟩
  obtain ⟨f, rfl, hA, ho, h4⟩ := h3 hne
  exact ⟨f, rfl, hA, ho.kept hk (hT f hA), h4⟩
theorem OwnB.step {A : Nat → Prop} {w w' : World} {bv fv : Value} {E : List EBl} {F : List Int} (h : OwnB A w bv fv E F) (hb : Below w.heap.size w w') : OwnB A w' bv fv E F := h.kept (T := fun _ => False) (kept_of_below hb) (fun _ _ h => h)
theorem OwnB.mono {A A' : Nat → Prop} {w : World} {bv fv : Value} {E : List EBl} {F : List Int} (h : OwnB A w bv fv E F) (hA : ∀ k, k < w.heap.size → A k → A' k) : OwnB A' w bv fv E F := by
  refine ⟨h.bls.mono hA, ?_⟩
  obtain ⟨ao, cap, rfl, h1, h2, h3⟩ := h.frd
  refine ⟨ao, cap, rfl, h1, h2, fun hne => ?_⟩
  obtain ⟨f, rfl, hAf, ho, h4⟩ := h3 hne
  exact ⟨f, rfl, hA _ ho.lt hAf, ho, h4⟩

set_option maxRecDepth 10000 in
set_option maxHeartbeats 1600000 in
theorem toBook_any (bv fv : Value) (b : BkT) (w : World) (h : BkIn w bv fv b) (hb : Bd b) :
    Calls Try.prog 17 #[vBook bv fv] w fun e w' => ∃ bv' fv' E, e = .returned (vBook bv' fv') ∧ bills E = b.1 ∧ OwnB (fun k => w.heap.size ≤ k) w' bv' fv' E b.2 ∧ Below w.heap.size w w' := by
  have h' := h
  obtain ⟨⟨ao, cap, rfl, -⟩, ⟨fo, fcap, rfl, -⟩⟩ := h'
  have HN := hide h
  have HH := hide (b3_new w #[.slice ao b.1.length cap, .slice fo b.2.length fcap] #[.slice none 0 0, .slice none 0 0] #[.slice none 0 0, .slice none 0 0] 47 27 27)
  have HBD := hide hb
  clear h hb
  unfold vBook
  go_enter Try.func17, Try.ntmps17
  go_wp2_with fail
  refine (toBillS_any _ b.1 _ ((unhide HN).1.below (unhide HH).below) (unhide HBD).1 (fun i hi => (unhide HBD).held hi)).mono ?_
  rintro e w2 ⟨v2, E, rfl, EB, hE, hb⟩
  have hg := (unhide HH).o3.lt
  replace HH := hide ((unhide HH).step hb)
  have HE := hide (hE.mono (A' := fun k => w.heap.size + 1 + 1 < k) (fun k _ hk => by omega))
  have HEB := hide EB
  obtain ⟨ea, ec, rfl, hel, hem, -⟩ := hE
  clear hb EB
  have c0 := (unhide HH).o3.cell (i := 0) rfl
  have c1 := (unhide HH).o3.cell (i := 1) rfl
  have cf := (unhide HH).o3.frozen
  have a1 := (unhide HH).o1.cell (i := 1) rfl
  replace HH := hide ((unhide HH).put3 0 (.slice ea E.length ec) (by simp))
  replace HE := hide ((unhide HE).kept (T := fun k => k = w.heap.size + 1 + 1) ((Kept.refl (fun k => k = w.heap.size + 1 + 1) w2).setCell (p := ⟨w.heap.size + 1 + 1, 0, none⟩) rfl (.slice ea E.length ec)) (fun k h e => by omega))
  have hw2 := (unhide HH).o3.lt
  have hne : ¬ w.heap.size = w.heap.size + 1 + 1 := by omega
  have HTI := hide (toIntS_o _ b.2 _ ((unhide HN).2.below (unhide HH).below) (unhide HBD).2.1)
  go_wp2_with fail
  refine (unhide HTI).mono ?_
  rintro e w3 ⟨gf, rfl, hgf, hof, hb⟩
  replace HH := hide ((unhide HH).step hb)
  have HEl := hide (fun x (hx : x ∈ E) => (show x.2.1 ≠ gf by
    have h9 := (unhide HE)
    obtain ⟨_, _, _, _, _, h5⟩ := h9
    obtain ⟨g5, _, _, _, h6⟩ := h5 (fun e => by rw [e] at hx; simp at hx)
    have := (h6.own x hx).1.lt
    omega))
  have HEg : Hid (E ≠ [] → ∀ g cp, (Value.slice ea E.length ec) ≠ .slice (some ⟨gf, g, none⟩) E.length cp) := fun hne g cp e => by
    obtain ⟨_, _, e5, _, _, h5⟩ := unhide HE
    obtain ⟨g5, e6, _, h7, _⟩ := h5 hne
    have := h7.lt
    rw [e5, e6] at e
    simp only [Value.slice.injEq, Option.some.injEq, Addr.mk.injEq] at e
    omega
  replace HE := hide ((unhide HE).step hb)
  have HO2 := hide hof
  have hg3 : w.heap.size + 1 + 1 < gf := by omega
  clear hb hof hgf HN c0 c1 cf a1 HTI
  have c0 := (unhide HH).o3.cell (i := 0) rfl
  have c1 := (unhide HH).o3.cell (i := 1) rfl
  have cf := (unhide HH).o3.frozen
  have HH1 := hide ((unhide HH).put3 1 (.slice (some ⟨gf, 0, none⟩) b.2.length b.2.length) (by simp))
  have e0 := (unhide HH1).o3.cell (i := 0) rfl
  have e1 := (unhide HH1).o3.cell (i := 1) rfl
  have d0 := (unhide HH1).o2.cell (i := 0) rfl
  have d1 := (unhide HH1).o2.cell (i := 1) rfl
  have df := (unhide HH1).o2.frozen
  have HH2 := hide (((unhide HH1).put2 0 (.slice ea E.length ec) (by simp)).put2 1 (.slice (some ⟨gf, 0, none⟩) b.2.length b.2.length) (by simp))
  have hq2 : gf ≠ w.heap.size + 1 + 1 := by omega
  have hq4 : gf ≠ w.heap.size + 1 := by omega
  have HO2' := hide (farN (farN (farN (unhide HO2) hq2 1 (.slice (some ⟨gf, 0, none⟩) b.2.length b.2.length)) hq4 0 (.slice ea E.length ec)) hq4 1 (.slice (some ⟨gf, 0, none⟩) b.2.length b.2.length))
  have HE2 := hide ((unhide HE).kept (T := fun k => k = w.heap.size + 1 + 1 ∨ k = w.heap.size + 1) ((((Kept.refl (fun k => k = w.heap.size + 1 + 1 ∨ k = w.heap.size + 1) w3).setCell (p := ⟨w.heap.size + 1 + 1, 1, none⟩) (Or.inl rfl) (.slice (some ⟨gf, 0, none⟩) b.2.length b.2.length)).setCell (p := ⟨w.heap.size + 1, 0, none⟩) (Or.inr rfl) (.slice ea E.length ec)).setCell (p := ⟨w.heap.size + 1, 1, none⟩) (Or.inr rfl) (.slice (some ⟨gf, 0, none⟩) b.2.length b.2.length)) (fun k h e => by omega))
  have hn1 : ¬ w.heap.size + 1 = w.heap.size + 1 + 1 := by omega
  have hn2 : ¬ w.heap.size + 1 + 1 = w.heap.size + 1 := by omega
  go_wp2
  have k0 := (unhide HH2).o2.cell (i := 0) rfl
  have k1 := (unhide HH2).o2.cell (i := 1) rfl
  refine bodyPost_ret (v := vBook (.slice ea E.length ec) (.slice (some ⟨gf, 0, none⟩) b.2.length b.2.length)) (by simp [results, Try.results17, go_sem, vBook, k0, k1]) rfl
    ⟨_, _, E, rfl, unhide HEB, ⟨(unhide HE2).mono (fun k _ h => by omega), ⟨_, _, rfl, Nat.le_refl _, by have := (unhide HBD).2.1; unfold maxLen; omega, fun _ => ⟨gf, rfl, by omega, unhide HO2', unhide HEl, unhide HEg⟩⟩⟩, (unhide HH2).below⟩

end Go.Proofs.Ytdcbonfhakdhhaa
