/- Segments in memory: contracts of the laws' own toStringSS, toSeg, toSegS. No statement about the program stands here. -/
import Derived.Test.YtjpogaidcmndoaaEdA
import Derived.Deep.DeepCutAuto
namespace Go.Proofs.Ytjpogaidcmndoaa
open Go.RowKit

/-- Lists of texts of the call's own, all blocks above B. -/
def SsQ (B : Nat) (w : World) (v : Value) (P : PartsT) : Prop :=
  ∃ g us, v = .slice (some ⟨g, 0, none⟩) P.length P.length ∧ P.length ≤ maxLen ∧ B < g ∧ us.length = P.length ∧ OwnV w g us ∧ ∀ i, i < P.length → ∃ gi, us[i]? = some (.slice (some ⟨gi, 0, none⟩) (P.getD i default).length (P.getD i default).length) ∧ (P.getD i default).length ≤ maxLen ∧ B < gi ∧ OwnV w gi (strs (P.getD i default))
theorem OwnV.sInL {V : World} {g : Nat} {L : List ByteArray} (h : OwnV V g (strs L)) (hL : L.length ≤ maxLen) : SIn V (.slice (some ⟨g, 0, none⟩) L.length L.length) L :=
  ⟨_, _, rfl, Nat.le_refl _, hL, fun i hi => ⟨g, 0, rfl, by rw [Nat.zero_add]; exact h.cell (map_get (E := Value.string) L hi)⟩⟩
section
variable {B : Nat} {w w' : World} {v : Value} {P : PartsT}
theorem SsQ.inn (h : SsQ B w v P) : SsIn w v P := by
  obtain ⟨g, us, rfl, hm, _, hl, ho, hr⟩ := h
  refine ⟨_, _, rfl, Nat.le_refl _, hm, fun i hi => ?_⟩
  obtain ⟨gi, e, hm2, _, ho2⟩ := hr i hi
  exact ⟨g, 0, _, _, rfl, by rw [Nat.zero_add]; exact ho.cell e, ho2.sInL hm2⟩
theorem SsQ.kept {T : Nat → Prop} (h : SsQ B w v P) (hk : Kept T w w') (hT : ∀ k, T k → k ≤ B) : SsQ B w' v P := by
  obtain ⟨g, us, rfl, hm, hg, hl, ho, hr⟩ := h
  refine ⟨g, us, rfl, hm, hg, hl, ho.kept hk (fun e => by have := hT _ e; omega), fun i hi => ?_⟩
  obtain ⟨gi, e, hm2, hgi, ho2⟩ := hr i hi
  exact ⟨gi, e, hm2, hgi, ho2.kept hk (fun e => by have := hT _ e; omega)⟩
theorem SsQ.step (h : SsQ B w v P) (hb : Below w.heap.size w w') : SsQ B w' v P := h.kept (T := fun _ => False) (kept_of_below hb) (fun _ h => h.elim)
theorem SsQ.mono {B' : Nat} (h : SsQ B w v P) (hB : B' ≤ B) : SsQ B' w v P := by
  obtain ⟨g, us, rfl, hm, hg, hl, ho, hr⟩ := h
  refine ⟨g, us, rfl, hm, by omega, hl, ho, fun i hi => ?_⟩
  obtain ⟨gi, e, hm2, hgi, ho2⟩ := hr i hi
  exact ⟨gi, e, hm2, by omega, ho2⟩
end
/-- So far k lists are filled in. -/
structure FilSs (w wr : World) (P : PartsT) (k : Nat) : Prop where
  below : Below w.heap.size w wr
  row : ∃ us : List Value, us.length = P.length ∧ OwnV wr w.heap.size us ∧ ∀ i, i < k → ∃ g, us[i]? = some (.slice (some ⟨g, 0, none⟩) (P.getD i default).length (P.getD i default).length) ∧ w.heap.size < g ∧ OwnV wr g (strs (P.getD i default))
section
variable {w wr wr' : World} {P : PartsT} {k : Nat}
theorem filSs_start (c : Array Value) (t : TypeId) (hc : c.size = P.length) : FilSs w (w.alloc (.cells c t)) P 0 :=
  ⟨Below.alloc1 _ _, c.toList, by simpa using hc, ownV_alloc w c t, fun i hi => by omega⟩
theorem FilSs.step (h : FilSs w wr P k) (hb : Below wr.heap.size wr wr') : FilSs w wr' P k := by
  obtain ⟨h1, us, h2, h3, h4⟩ := h
  refine ⟨Below.step h1 hb, us, h2, h3.step hb, fun i hi => ?_⟩
  obtain ⟨g, e, hg, ho⟩ := h4 i hi
  exact ⟨g, e, hg, ho.step hb⟩
theorem FilSs.frozen (h : FilSs w wr P k) (i : Nat) : wr.frozen? ⟨w.heap.size, i, none⟩ = false := by obtain ⟨_, us, _, h3, _⟩ := h; exact h3.frozen i
theorem FilSs.cell (h : FilSs w wr P k) {i : Nat} (hi : i < P.length) : ∃ u, wr.cell? ⟨w.heap.size, i, none⟩ = some u := by
  obtain ⟨_, us, h2, h3, _⟩ := h
  exact ⟨_, h3.cell (List.getElem?_eq_getElem (by omega))⟩
theorem FilSs.next (h : FilSs w wr P k) (hk : k < P.length) {g : Nat} (hg : w.heap.size < g) (ho : OwnV wr g (strs (P.getD k default))) : FilSs w (wr.setCell ⟨w.heap.size, k, none⟩ (.slice (some ⟨g, 0, none⟩) (P.getD k default).length (P.getD k default).length)) P (k + 1) := by
  obtain ⟨h1, us, h2, h3, h4⟩ := h
  refine ⟨h1.setCell (p := ⟨w.heap.size, k, none⟩) (Nat.le_refl _) _, us.set k _, by rw [List.length_set]; exact h2, h3.set k _ (by omega), fun i hi => ?_⟩
  by_cases e : i = k
  · subst e
    exact ⟨g, by rw [List.getElem?_set_self (by omega)], hg, ho.other (a := ⟨w.heap.size, i, none⟩) (by show g ≠ w.heap.size; omega) _⟩
  · obtain ⟨g', e', hg', ho'⟩ := h4 i (by omega)
    exact ⟨g', by rw [List.getElem?_set_ne (fun h => e h.symm)]; exact e', hg', ho'.other (a := ⟨w.heap.size, k, none⟩) (by show g' ≠ w.heap.size; omega) _⟩
theorem FilSs.done {B : Nat} (h : FilSs w wr P P.length) (hs : BdSs P) (hB : B < w.heap.size) : SsQ B wr (.slice (some ⟨w.heap.size, 0, none⟩) P.length P.length) P := by
  obtain ⟨h1, us, h2, h3, h4⟩ := h
  refine ⟨_, us, rfl, by have := hs.1; unfold maxLen; omega, hB, h2, h3, fun i hi => ?_⟩
  obtain ⟨g', e', hg', ho'⟩ := h4 i hi
  exact ⟨g', e', by have := hs.2 i hi; unfold maxLen; omega, by omega, ho'⟩
end
theorem Try.infoSs : (Try.prog.info? 34).map (fun i => (i.zero, i.size, i.bytes)) = some (some (.slice none 0 0), 1, 24) := by kernel_rfl

set_option maxHeartbeats 1600000 in
theorem toStringSS_any (v : Value) (P : PartsT) (w : World) (h : SsIn w v P) (hs : BdSs P) :
    Calls Try.prog 71 #[v] w fun e w' => ∃ na nc, e = .returned (.slice na P.length nc) ∧ (∀ B, B < w.heap.size → SsQ B w' (.slice na P.length nc) P) ∧ Below w.heap.size w w' := by
  have HC := hide h
  have HS := hide hs
  obtain ⟨ao, cap, rfl, hlc, hm, -⟩ := h
  have hs1 := hs.1
  clear hlc hm hs
  have hmk := run_make_recs (P := Try.prog) 31 34 _ 1 24 Try.underlying31 Try.infoSs .i64 .i64 P.length (by omega) (by omega)
  go_enter Try.func71, Try.ntmps71
  go_wp2
  clear hmk
  go_loopg [4] P.length (fun g i wr => ∃ k : Nat, k ≤ P.length ∧ g = P.length - k ∧ i = .int .i64 k ∧ FilSs w wr P k)
  case atStart => exact ⟨0, Nat.zero_le _, rfl, rfl, filSs_start _ _ (by simp [madeCells])⟩
  case round =>
    obtain ⟨k, hk, rfl, rfl, hF⟩ := hrel
    by_cases hkn : k < P.length
    · obtain ⟨b, o, na, nc, n, T, rfl, hc, hr, EX, EM, hn⟩ := (unhide HC).at hkn
      have hT := (unhide HS).2 k hkn
      have HNX := hide fun (wq : World) (g : Nat) (hF : FilSs w wq P k) (hg : w.heap.size < g) (ho : OwnV wq g (strs T)) => by
        have h9 := hF.next hkn hg (by rw [unhide EX]; exact ho)
        rw [unhide EX] at h9
        exact h9
      rw [unhide EX] at hT
      have HT := hide fun V (hV : Below w.heap.size w V) => toStringS_o _ T V (hr.below hV) hT
      have g0 := wcell3 hc hF.below
      have HF := hide hF
      have hki : (k : Int) < P.length := by omega
      clear hc hr hF
      go_wp2_with fail
      refine (unhide HT _ (unhide HF).below).mono ?_
      rintro e w1 ⟨gn, rfl, hgn, hon, hb⟩
      have hlt : w.heap.size < wr.heap.size := by obtain ⟨_, us, _, h3, _⟩ := unhide HF; exact h3.lt
      have hF1 := (unhide HF).step hb
      have hf := hF1.frozen k
      obtain ⟨u0, hu0⟩ := hF1.cell hkn
      have HN := hide (unhide HNX _ gn hF1 (by omega) hon)
      clear hb HF hF1 HT hon hgn hlt HNX g0
      go_wp2
      go_roundg (P.length - (k + 1))
      case measure => omega
      case rel => exact ⟨k + 1, by omega, rfl, by go_num, unhide HN⟩
    · have hkk : k = P.length := by omega
      subst hkk
      have HF := hide hF
      have hki : ¬ (P.length : Int) < P.length := by omega
      go_wp2
      go_ret
      exact ⟨_, _, rfl, fun B hB => (unhide HF).done (unhide HS) hB, (unhide HF).below⟩

set_option maxRecDepth 10000 in
set_option maxHeartbeats 1600000 in
theorem toSeg_any (t : ByteArray) (na : Option Addr) (nn nc : Nat) (P : PartsT) (w : World) (hN : SsIn w (.slice na nn nc) P) (hs : BdSs P) :
    Calls Try.prog 38 #[vSeg t (.slice na nn nc)] w fun e w' => ∃ pa pc, e = .returned (vSeg t (.slice pa P.length pc)) ∧ (∀ B, B < w.heap.size → SsQ B w' (.slice pa P.length pc) P) ∧ Below w.heap.size w w' := by
  have HI := hide hN
  have HS := hide hs
  have HH := hide (s3_new w #[.string t, .slice na nn nc] #[.string ⟨#[]⟩, .slice none 0 0] #[.string ⟨#[]⟩, .slice none 0 0] 64 33 33)
  clear hN hs
  unfold vSeg
  go_enter Try.func38, Try.ntmps38
  go_upto_region 2 with (fail)
  obtain ⟨W0, e0⟩ : ∃ z, z = ((w.alloc (.cells #[.string t, .slice na nn nc] 64)).alloc (.cells #[.string ⟨#[]⟩, .slice none 0 0] 33)).alloc (.cells #[.string ⟨#[]⟩, .slice none 0 0] 33) := ⟨_, rfl⟩
  rw [← e0] at HH ⊢
  clear e0
  have a0 := (unhide HH).o1.cell (i := 0) rfl
  have a1 := (unhide HH).o1.cell (i := 1) rfl
  have c0 := (unhide HH).o3.cell (i := 0) rfl
  have c1 := (unhide HH).o3.cell (i := 1) rfl
  have cf := (unhide HH).o3.frozen
  have hn1 : ¬ w.heap.size = w.heap.size + 1 + 1 := by omega
  have hn2 : ¬ w.heap.size + 1 + 1 = w.heap.size := by omega
  have hlt0 := (unhide HH).o3.lt
  have HH0 := hide ((unhide HH).put3 0 (.string t) (by simp))
  go_wp2_with fail
  refine (toStringSS_any _ P _ ((unhide HI).below (unhide HH0).below) (unhide HS)).mono ?_
  rintro e w1 ⟨pa, pc, rfl, hq, hb⟩
  have hq1 := hq (w.heap.size + 1 + 1) (by simpa using hlt0)
  replace HH0 := hide ((unhide HH0).step hb)
  have HQ := hide hq1
  clear hb hq hq1 a0 a1 c0 c1 cf HH HI
  have c0 := (unhide HH0).o3.cell (i := 0) rfl
  have c1 := (unhide HH0).o3.cell (i := 1) rfl
  have cf := (unhide HH0).o3.frozen
  have HH1 := hide ((unhide HH0).put3 1 (.slice pa P.length pc) (by simp))
  have d0 := (unhide HH1).o2.cell (i := 0) rfl
  have d1 := (unhide HH1).o2.cell (i := 1) rfl
  have df := (unhide HH1).o2.frozen
  have e0 := (unhide HH1).o3.cell (i := 0) rfl
  have e1 := (unhide HH1).o3.cell (i := 1) rfl
  have HH2 := hide (((unhide HH1).put2 0 (.string t) (by simp)).put2 1 (.slice pa P.length pc) (by simp))
  have hk : Kept (fun b => b = w.heap.size + 1 + 1 ∨ b = w.heap.size + 1) w1 (((w1.setCell ⟨w.heap.size + 1 + 1, 1, none⟩ (.slice pa P.length pc)).setCell ⟨w.heap.size + 1, 0, none⟩ (.string t)).setCell ⟨w.heap.size + 1, 1, none⟩ (.slice pa P.length pc)) := (((Kept.refl (fun b => b = w.heap.size + 1 + 1 ∨ b = w.heap.size + 1) _).setCell (p := ⟨w.heap.size + 1 + 1, 1, none⟩) (Or.inl rfl) _).setCell (p := ⟨w.heap.size + 1, 0, none⟩) (Or.inr rfl) _).setCell (p := ⟨w.heap.size + 1, 1, none⟩) (Or.inr rfl) _
  have HQ2 := hide ((unhide HQ).kept hk (fun k h => by rcases h with h | h <;> omega))
  clear hk HQ
  go_wp2
  have k0 := (unhide HH2).o2.cell (i := 0) rfl
  have k1 := (unhide HH2).o2.cell (i := 1) rfl
  refine bodyPost_ret (v := vSeg t (.slice pa P.length pc)) (by simp [results, Try.results38, go_sem, vSeg, k0, k1]) rfl ⟨pa, pc, rfl, fun B hB => (unhide HQ2).mono (by omega), (unhide HH2).below⟩

/-- So far k segments are filled in. -/
structure FilSg (w wr : World) (L : List SegT) (k : Nat) : Prop where
  below : Below w.heap.size w wr
  row : ∃ us : List Value, us.length = L.length * 2 ∧ OwnV wr w.heap.size us ∧ ∀ i, i < k → us[i * 2]? = some (.string (L.getD i default).1) ∧ ∃ pa pc, us[i * 2 + 1]? = some (.slice pa (L.getD i default).2.length pc) ∧ SsQ w.heap.size wr (.slice pa (L.getD i default).2.length pc) (L.getD i default).2
section
variable {w wr wr' : World} {L : List SegT} {k : Nat}
theorem filSg_start (c : Array Value) (t : TypeId) (hc : c.size = L.length * 2) : FilSg w (w.alloc (.cells c t)) L 0 :=
  ⟨Below.alloc1 _ _, c.toList, by simpa using hc, ownV_alloc w c t, fun i hi => by omega⟩
theorem FilSg.step (h : FilSg w wr L k) (hb : Below wr.heap.size wr wr') : FilSg w wr' L k := by
  obtain ⟨h1, us, h2, h3, h4⟩ := h
  refine ⟨Below.step h1 hb, us, h2, h3.step hb, fun i hi => ?_⟩
  obtain ⟨e0, pa, pc, e, hq⟩ := h4 i hi
  exact ⟨e0, pa, pc, e, hq.step hb⟩
theorem FilSg.lt (h : FilSg w wr L k) : w.heap.size < wr.heap.size := by obtain ⟨_, us, _, h3, _⟩ := h; exact h3.lt
theorem FilSg.frozen (h : FilSg w wr L k) (i : Nat) : wr.frozen? ⟨w.heap.size, i, none⟩ = false := by obtain ⟨_, us, _, h3, _⟩ := h; exact h3.frozen i
theorem FilSg.cell (h : FilSg w wr L k) {i : Nat} (hi : i < L.length * 2) : ∃ u, wr.cell? ⟨w.heap.size, i, none⟩ = some u := by
  obtain ⟨_, us, h2, h3, _⟩ := h
  exact ⟨_, h3.cell (List.getElem?_eq_getElem (by omega))⟩
theorem FilSg.next (h : FilSg w wr L k) (hk : k < L.length) {t : ByteArray} {P : PartsT} (hx : L.getD k default = (t, P)) {pa : Option Addr} {pc : Nat} (ho : SsQ w.heap.size wr (.slice pa P.length pc) P) :
    FilSg w ((wr.setCell ⟨w.heap.size, k * 2, none⟩ (.string t)).setCell ⟨w.heap.size, k * 2 + 1, none⟩ (.slice pa P.length pc)) L (k + 1) := by
  obtain ⟨h1, us, h2, h3, h4⟩ := h
  have hk9 : Kept (fun b => b = w.heap.size) wr ((wr.setCell ⟨w.heap.size, k * 2, none⟩ (.string t)).setCell ⟨w.heap.size, k * 2 + 1, none⟩ (.slice pa P.length pc)) := ((Kept.refl (fun b => b = w.heap.size) _).setCell (p := ⟨w.heap.size, k * 2, none⟩) rfl _).setCell (p := ⟨w.heap.size, k * 2 + 1, none⟩) rfl _
  refine ⟨h1.trans (hk9.below h1.size (fun b e => by have e : b = w.heap.size := e; omega)), (us.set (k * 2) (.string t)).set (k * 2 + 1) (.slice pa P.length pc), by rw [List.length_set, List.length_set]; exact h2, (h3.set (k * 2) _ (by omega)).set (k * 2 + 1) _ (by rw [List.length_set]; omega), fun i hi => ?_⟩
  by_cases e : i = k
  · subst e
    rw [hx]
    refine ⟨by rw [List.getElem?_set_ne (by omega), List.getElem?_set_self (by omega)], pa, pc, by rw [List.getElem?_set_self (by rw [List.length_set]; omega)], ho.kept hk9 (fun k e => by have e : k = w.heap.size := e; omega)⟩
  · obtain ⟨e0, pa', pc', e', hq'⟩ := h4 i (by omega)
    exact ⟨by rw [List.getElem?_set_ne (by omega), List.getElem?_set_ne (by omega)]; exact e0, pa', pc', by rw [List.getElem?_set_ne (by omega), List.getElem?_set_ne (by omega)]; exact e', hq'.kept hk9 (fun k e => by have e : k = w.heap.size := e; omega)⟩
theorem FilSg.done (h : FilSg w wr L L.length) (hs : L.length ≤ 1048576) : SgsIn wr (.slice (some ⟨w.heap.size, 0, none⟩) L.length L.length) L := by
  obtain ⟨h1, us, h2, h3, h4⟩ := h
  refine ⟨_, _, rfl, Nat.le_refl _, by unfold maxLen; omega, fun i hi => ?_⟩
  obtain ⟨e0, pa, pc, e', hq'⟩ := h4 i hi
  exact ⟨w.heap.size, 0, pa, pc, rfl, by rw [Nat.zero_add]; exact h3.cell e0, by rw [Nat.zero_add]; exact h3.cell e', hq'.inn⟩
end
theorem Try.infoSegT : (Try.prog.info? 33).map (fun i => (i.zero, i.size, i.bytes)) = some (some (vSeg ⟨#[]⟩ (.slice none 0 0)), 2, 40) := by kernel_rfl

set_option maxHeartbeats 1600000 in
theorem toSegS_any (v : Value) (L : List SegT) (w : World) (h : SgsIn w v L) (hs : BdSg L) :
    Calls Try.prog 16 #[v] w fun e w' => ∃ na nc, e = .returned (.slice na L.length nc) ∧ SgsIn w' (.slice na L.length nc) L ∧ Below w.heap.size w w' := by
  have HC := hide h
  have HS := hide hs
  obtain ⟨ao, cap, rfl, hlc, hm, -⟩ := h
  have hs1 := hs.1
  clear hlc hm hs
  have hmk := run_make_recs (P := Try.prog) 24 33 _ 2 40 Try.underlying24 Try.infoSegT .i64 .i64 L.length (by omega) (by omega)
  go_enter Try.func16, Try.ntmps16
  go_wp2
  clear hmk
  go_loopg [4] L.length (fun g i wr => ∃ k : Nat, k ≤ L.length ∧ g = L.length - k ∧ i = .int .i64 k ∧ FilSg w wr L k)
  case atStart => exact ⟨0, Nat.zero_le _, rfl, rfl, filSg_start _ _ (by simp [madeCells])⟩
  case round =>
    obtain ⟨k, hk, rfl, rfl, hF⟩ := hrel
    by_cases hkn : k < L.length
    · obtain ⟨b, o, na, nc, n, t, P, rfl, hc0, hc1, hr, EX, EM, hn⟩ := (unhide HC).at hkn
      have hT := ((unhide HS).2 k hkn).2
      rw [unhide EX] at hT
      have HT := hide fun V (hV : Below w.heap.size w V) => toSeg_any t na n nc P V (hr.below hV) hT
      have g0 := wcell3 hc0 hF.below
      have g1 := wcell3 hc1 hF.below
      have HF := hide hF
      unfold vSeg at HT
      have hki : (k : Int) < L.length := by omega
      clear hc0 hc1 hr hF
      go_wp2_with fail
      refine (unhide HT _ (unhide HF).below).mono ?_
      rintro e w1 ⟨pa, pc, rfl, hq, hb⟩
      have hq1 := hq w.heap.size (unhide HF).lt
      have hF1 := (unhide HF).step hb
      have hf := hF1.frozen (k * 2)
      have hf1 := hF1.frozen (k * 2 + 1)
      obtain ⟨u0, hu0⟩ := hF1.cell (i := k * 2) (by omega)
      obtain ⟨u1, hu1⟩ := hF1.cell (i := k * 2 + 1) (by omega)
      have HN := hide (hF1.next hkn (unhide EX) hq1)
      clear hb HF hF1 HT hq hq1 g0 g1
      go_wp2
      go_roundg (L.length - (k + 1))
      case measure => omega
      case rel => exact ⟨k + 1, by omega, rfl, by go_num, unhide HN⟩
    · have hkk : k = L.length := by omega
      subst hkk
      have HF := hide hF
      have hki : ¬ (L.length : Int) < L.length := by omega
      go_wp2
      go_ret
      exact ⟨_, _, rfl, (unhide HF).done (unhide HS).1, (unhide HF).below⟩

end Go.Proofs.Ytjpogaidcmndoaa
