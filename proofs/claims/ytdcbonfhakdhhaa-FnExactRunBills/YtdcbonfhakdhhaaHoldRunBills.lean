/- Proved: FnExactRunBills, for every argument. Laid together by wip/mkbldo.py. -/
import Derived.Test.YtdcbonfhakdhhaaBlP
import Derived.Test.YtdcbonfhakdhhaaBlZ4
import Derived.Test.YtdcbonfhakdhhaaBlYi
import Derived.Test.YtdcbonfhakdhhaaBlA
import Derived.Deep.RegionHeld3
import Derived.Deep.DeepCutAuto
import Derived.Deep.Cut
import Derived.Test.YtdcbonfhakdhhaaBlX
import Derived.ProofKit
import Derived.OpenShut
import Derived.ShutString
import Derived.ChangeOld
import Derived.Below
import Derived.Deep.Matrix
import Derived.Lib.SmallJoins
import Derived.Carry
namespace Go.Proofs.Ytdcbonfhakdhhaa
section
open Go.RowKit

theorem cds_put (xs : List Int) (n : Nat) (h : xs.length < n) (c : Int) : (xs ++ List.replicate (n - xs.length) 0).set xs.length c = (xs ++ [c]) ++ List.replicate (n - (xs.length + 1)) 0 := by
  obtain ⟨d, hd⟩ : ∃ d, n - xs.length = d + 1 := ⟨n - xs.length - 1, by omega⟩
  have hd' : n - (xs.length + 1) = d := by omega
  rw [hd, hd', List.replicate_succ, List.set_append]
  simp
theorem ints_made14 (n : Nat) : (madeCells #[Value.int .i64 0] n).toList = ints (List.replicate n 0) := by
  apply List.ext_getElem?
  intro i
  by_cases h : i < n
  · simp [madeCells, ints, h, Nat.mod_one]
  · simp [madeCells, ints, h]
theorem cdsB_len (b : BkT) (O : List BillOpT) (k : Nat) : (cdsB b O k).length = k := by simp [cdsB]
/-- The codes told so far, in a row of n. -/
def cdR (b : BkT) (O : List BillOpT) (n k : Nat) : List Int := cdsB b O k ++ List.replicate (n - k) 0
theorem cdR_len {b : BkT} {O : List BillOpT} {n k : Nat} (h : k ≤ n) : (cdR b O n k).length = n := by simp [cdR, cdsB_len]; omega
theorem cdR_set {b : BkT} {O : List BillOpT} {n k : Nat} (h : k < n) : (cdR b O n k).set k (cdB b O k) = cdR b O n (k + 1) := by
  have := cds_put (cdsB b O k) n (by rw [cdsB_len]; exact h) (cdB b O k)
  rw [cdsB_len] at this
  rw [cdR, this, cdR, cdsB_succ]
theorem cdR_done (b : BkT) (O : List BillOpT) (n : Nat) : cdR b O n n = cdsB b O n := by simp [cdR]
/-- How many ops are done. -/
def runN (O : List BillOpT) : Nat := if O.length ≤ 200 then O.length else 0

/-- Blocks of the run, but for the book's box and the codes. -/
def rA (B G D k : Nat) : Prop := B + 1 < k ∧ k ≠ G ∧ k ≠ D
/-- What is held while ops are done. -/
structure Rn (w wr : World) (G D : Nat) (cs : List Int) (g m cap f mf fcap : Nat) (E : List EBl) (F : List Int) : Prop where
  below : Below w.heap.size w wr
  res : OwnV wr (w.heap.size + 1) [.slice none 0 0, .slice none 0 0]
  box : OwnV wr G [.slice (some ⟨g, 0, none⟩) m cap, .slice (some ⟨f, 0, none⟩) mf fcap]
  cds : OwnV wr D (ints cs)
  pbk : PBk (rA w.heap.size G D) wr g m cap f mf fcap E F
  ap : w.heap.size + 1 < G ∧ w.heap.size + 1 < D ∧ G ≠ D
section
variable {w wr w2 : World} {G D : Nat} {cs : List Int} {g m cap f mf fcap g' m' cap' f' mf' fcap' : Nat} {E E' : List EBl} {F F' : List Int}
theorem Rn.step (h : Rn w wr G D cs g m cap f mf fcap E F) (hb : Below wr.heap.size wr w2) : Rn w w2 G D cs g m cap f mf fcap E F :=
  ⟨Below.step h.below hb, h.res.step hb, h.box.step hb, h.cds.step hb, h.pbk.step hb, h.ap⟩
theorem Rn.next (h : Rn w wr G D cs g m cap f mf fcap E F) {a : Array Value} {t : TypeId} (hP : PBk (fun k => rA w.heap.size G D k ∧ k ≠ wr.heap.size) w2 g' m' cap' f' mf' fcap' E' F') (hK : Kept (fun k => rA w.heap.size G D k ∧ k ≠ wr.heap.size) (wr.alloc (.cells a t)) w2) {k : Nat} (hk : k < cs.length) (c : Int) :
    Rn w (((w2.setCell ⟨G, 0, none⟩ (.slice (some ⟨g', 0, none⟩) m' cap')).setCell ⟨G, 1, none⟩ (.slice (some ⟨f', 0, none⟩) mf' fcap')).setCell ⟨D, k, none⟩ (.int .i64 c)) G D (cs.set k c) g' m' cap' f' mf' fcap' E' F' := by
  obtain ⟨a1, a2, a3⟩ := h.ap
  have h1 := h.step (Below.alloc1 wr (.cells a t))
  have r1 := h1.res.kept hK (by unfold rA; omega)
  have r2 := h1.box.kept hK (by unfold rA; omega)
  have r3 := h1.cds.kept hK (by unfold rA; omega)
  have r4 := h1.below.trans (hK.below (B := w.heap.size) h1.below.size (fun b e => by unfold rA at e; omega))
  refine ⟨((r4.setCell (p := ⟨G, 0, none⟩) (by show w.heap.size ≤ G; omega) _).setCell (p := ⟨G, 1, none⟩) (by show w.heap.size ≤ G; omega) _).setCell (p := ⟨D, k, none⟩) (by show w.heap.size ≤ D; omega) _, farN (farN (farN r1 (by omega) _ _) (by omega) _ _) (by omega) _ _, farN ((r2.set 0 _ (by simp)).set 1 _ (by simp)) (by omega) _ _, ?_, ?_, h.ap⟩
  · have := (farN (g' := G) (farN (g' := G) r3 (by omega) 0 (.slice (some ⟨g', 0, none⟩) m' cap')) (by omega) 1 (.slice (some ⟨f', 0, none⟩) mf' fcap')).set k (.int .i64 c) (by rw [ints_length]; exact hk)
    rw [ints_set] at this
    exact this
  · exact (((hP.far (by unfold rA; omega)).far (by unfold rA; omega)).far (by unfold rA; omega)).mono (fun _ _ h => h.1)
theorem Rn.res2 (h : Rn w wr G D cs g m cap f mf fcap E F) (v0 v1 : Value) : OwnV ((wr.setCell ⟨w.heap.size + 1, 0, none⟩ v0).setCell ⟨w.heap.size + 1, 1, none⟩ v1) (w.heap.size + 1) [v0, v1] ∧ OwnV ((wr.setCell ⟨w.heap.size + 1, 0, none⟩ v0).setCell ⟨w.heap.size + 1, 1, none⟩ v1) D (ints cs) ∧ PBk (fun k => w.heap.size ≤ k ∧ k ≠ D) ((wr.setCell ⟨w.heap.size + 1, 0, none⟩ v0).setCell ⟨w.heap.size + 1, 1, none⟩ v1) g m cap f mf fcap E F ∧ Below w.heap.size w ((wr.setCell ⟨w.heap.size + 1, 0, none⟩ v0).setCell ⟨w.heap.size + 1, 1, none⟩ v1) := by
  obtain ⟨a1, a2, a3⟩ := h.ap
  exact ⟨(h.res.set 0 v0 (by simp)).set 1 v1 (by simp), farN (farN h.cds (by omega) _ _) (by omega) _ _, ((h.pbk.far (by unfold rA; omega)).far (by unfold rA; omega)).mono (fun _ _ h => by unfold rA at h; omega), (h.below.setCell (p := ⟨w.heap.size + 1, 0, none⟩) (by show w.heap.size ≤ w.heap.size + 1; omega) _).setCell (p := ⟨w.heap.size + 1, 1, none⟩) (by show w.heap.size ≤ w.heap.size + 1; omega) _⟩
end
/-- The whole answer of RunBills. -/
def RAns (w : World) (b : BkT) (cs : List Int) (e : Ending) (w' : World) : Prop :=
  ∃ g m cap f mf fcap E D co, e = .returned (.tuple #[vBook (.slice (some ⟨g, 0, none⟩) m cap) (.slice (some ⟨f, 0, none⟩) mf fcap), .slice co cs.length cs.length]) ∧ bills E = b.1 ∧ PBk (fun k => w.heap.size ≤ k ∧ k ≠ D) w' g m cap f mf fcap E b.2 ∧ (cs ≠ [] → co = some ⟨D, 0, none⟩ ∧ w.heap.size ≤ D ∧ OwnV w' D (ints cs)) ∧ Below w.heap.size w w'
/-- The first of it: the book in its box. -/
structure R0 (w wa : World) (g m cap f mf fcap : Nat) (E : List EBl) (F : List Int) : Prop where
  below : Below w.heap.size w wa
  res : OwnV wa (w.heap.size + 1) [.slice none 0 0, .slice none 0 0]
  pbk : PBk (fun k => w.heap.size + 2 ≤ k) wa g m cap f mf fcap E F
  lt : w.heap.size + 2 ≤ wa.heap.size

set_option maxRecDepth 100000 in
set_option maxHeartbeats 8000000 in
theorem implRunBills_any (bv fv ov : Value) (b : BkT) (O : List BillOpT) (w : World) (h : BkIn w bv fv b) (hbd : Bd b) (ho : RBillOp w ov O) :
    Calls Try.prog 14 #[vBook bv fv, ov] w fun e w' => RAns w (stB b O (runN O)) (cdsB b O (runN O)) e w' := by
  have HBD := hide fun k => st_bd hbd O k
  have Q0 := hide fun V (hV : Below w.heap.size w V) => ownBook_any bv fv b V (h.below hV) hbd
  obtain ⟨L, F⟩ := b
  have h' := h
  obtain ⟨⟨ao, cap0, rfl, -⟩, ⟨fo, fcap0, rfl, -⟩⟩ := h'
  obtain ⟨oo, ocap, rfl, hol, hom, hoc⟩ := ho
  unfold maxLen at hom
  have HOC := hide hoc
  obtain ⟨V1, eV1⟩ : ∃ V, V = (w.alloc (.cells #[.slice ao L.length cap0, .slice fo F.length fcap0] 27)).alloc (.cells #[.slice none 0 0, .slice none 0 0] 27) := ⟨_, rfl⟩
  have hb0 := Below.step (Below.alloc1 w (.cells #[.slice ao L.length cap0, .slice fo F.length fcap0] 27)) (Below.alloc1 _ (.cells #[.slice none 0 0, .slice none 0 0] 27))
  have h1 := (ownV_alloc w #[.slice ao L.length cap0, .slice fo F.length fcap0] 27).alloc (.cells #[.slice none 0 0, .slice none 0 0] 27)
  have h3 := ownV_alloc (w.alloc (.cells #[.slice ao L.length cap0, .slice fo F.length fcap0] 27)) #[.slice none 0 0, .slice none 0 0] 27
  simp only [World.size_alloc] at h3
  have hsz : V1.heap.size = w.heap.size + 2 := by rw [eV1]; simp only [World.size_alloc]
  rw [← eV1] at hb0 h1 h3
  have HW : Hid (Below w.heap.size w V1) := hb0
  have HA : Hid (OwnV V1 w.heap.size [.slice ao L.length cap0, .slice fo F.length fcap0]) := h1
  have HR : Hid (OwnV V1 (w.heap.size + 1) [.slice none 0 0, .slice none 0 0]) := h3
  clear h hb0 h1 h3 hbd hoc
  dsimp only at Q0
  unfold vBook at Q0
  unfold vBook
  go_enter Try.func14, Try.ntmps14
  go_upto_region 1 with (fail)
  rw [← eV1]
  clear eV1
  have a0 := (unhide HA).cell (i := 0) rfl
  have a1 := (unhide HA).cell (i := 1) rfl
  go_wp2_with fail
  refine (unhide Q0 _ (unhide HW)).mono ?_
  rintro e wa ⟨g, f, E, rfl, eE, hP, hb⟩
  have HS : Hid (R0 w wa g L.length L.length f F.length F.length E F) := ⟨Below.step (unhide HW) hb, (unhide HR).step hb, hP.mono (fun k _ h => by omega), by have := hb.size; omega⟩
  have HE := hide eE
  clear Q0 HW HA HR a0 a1 eE hP hb hsz
  have hlt := (unhide HS).lt
  obtain ⟨V2, eV2⟩ : ∃ V, V = wa.alloc (.cells #[.slice (some ⟨g, 0, none⟩) L.length L.length, .slice (some ⟨f, 0, none⟩) F.length F.length] 27) := ⟨_, rfl⟩
  go_upto_region 2 with (fail)
  rw [← eV2]
  have A2 := Below.alloc1 wa (.cells #[.slice (some ⟨g, 0, none⟩) L.length L.length, .slice (some ⟨f, 0, none⟩) F.length F.length] 27)
  have hX := ownV_alloc wa #[.slice (some ⟨g, 0, none⟩) L.length L.length, .slice (some ⟨f, 0, none⟩) F.length F.length] 27
  have hsz : V2.heap.size = wa.heap.size + 1 := by rw [eV2, World.size_alloc]
  rw [← eV2] at A2 hX
  obtain ⟨G, eG⟩ : ∃ G, G = wa.heap.size := ⟨_, rfl⟩
  rw [← eG] at hX ⊢
  have HX : Hid (OwnV V2 G [.slice (some ⟨g, 0, none⟩) L.length L.length, .slice (some ⟨f, 0, none⟩) F.length F.length]) := hX
  have HP2 : Hid (PBk (fun k => w.heap.size + 1 < k ∧ k ≠ G) V2 g L.length L.length f F.length F.length E F) := ((unhide HS).pbk.mono (fun k hk h => by omega)).step A2
  have HR2 := hide ((unhide HS).res.step A2)
  have HW2 := hide (Below.step (unhide HS).below A2)
  have hG : w.heap.size + 1 < G := by omega
  have hGs : G < V2.heap.size := by omega
  clear HS A2 hX eV2 hlt hsz eG
  by_cases hbig : 200 < (O.length : Int)
  · have HN : Hid (runN O = 0) := if_neg (by omega)
    have HF2 := hide ((((unhide HR2).set 0 (.slice (some ⟨g, 0, none⟩) L.length L.length) (by simp)).set 1 (.slice (some ⟨f, 0, none⟩) F.length F.length) (by simp)))
    have HFP := hide ((((unhide HP2).far (b := w.heap.size + 1) (i := 0) (u := .slice (some ⟨g, 0, none⟩) L.length L.length) (by omega)).far (b := w.heap.size + 1) (i := 1) (u := .slice (some ⟨f, 0, none⟩) F.length F.length) (by omega)).mono (A' := fun k => w.heap.size ≤ k ∧ k ≠ G) (fun _ _ h => by omega))
    have HFW := hide (((unhide HW2).setCell (p := ⟨w.heap.size + 1, 0, none⟩) (by show w.heap.size ≤ w.heap.size + 1; omega) (.slice (some ⟨g, 0, none⟩) L.length L.length)).setCell (p := ⟨w.heap.size + 1, 1, none⟩) (by show w.heap.size ≤ w.heap.size + 1; omega) (.slice (some ⟨f, 0, none⟩) F.length F.length))
    have b0 := (unhide HX).cell (i := 0) rfl
    have b1 := (unhide HX).cell (i := 1) rfl
    have r0 := (unhide HR2).cell (i := 0) rfl
    have r1 := (unhide HR2).cell (i := 1) rfl
    have rf := (unhide HR2).frozen
    go_wp2
    have k0 := (unhide HF2).cell (i := 0) rfl
    have k1 := (unhide HF2).cell (i := 1) rfl
    refine bodyPost_ret (v := .tuple #[vBook (.slice (some ⟨g, 0, none⟩) L.length L.length) (.slice (some ⟨f, 0, none⟩) F.length F.length), .slice none 0 0]) (by simp [results, Try.results14, go_sem, vBook, k0, k1]) rfl ?_
    show RAns _ _ _ _ _
    rw [unhide HN]
    exact ⟨g, L.length, L.length, f, F.length, F.length, E, G, none, rfl, unhide HE, unhide HFP, fun h => absurd rfl h, unhide HFW⟩
  have HN : Hid (runN O = O.length) := if_pos (by omega)
  have hmk := run_make_row' (P := Try.prog) 25 3 (.int .i64 0) 8 Try.underlying25 Try.info3 rfl .i64 .i64 O.length (by omega) (by omega)
  have A3 := Below.alloc1 V2 (.cells (madeCells #[.int .i64 0] O.length) 3)
  have HD0 : Hid (Rn w (V2.alloc (.cells (madeCells #[.int .i64 0] O.length) 3)) G V2.heap.size (cdR (L, F) O O.length 0) g L.length L.length f F.length F.length E F) := by
    have hd := ownV_alloc V2 (madeCells #[.int .i64 0] O.length) 3
    rw [ints_made14] at hd
    exact ⟨Below.step (unhide HW2) A3, (unhide HR2).step A3, (unhide HX).step A3, hd, ((unhide HP2).mono (fun k hk h => by unfold rA; omega)).step A3, by omega⟩
  clear A3 HX HP2 HR2 HW2
  go_wp2
  clear hmk
  obtain ⟨D, eD⟩ : ∃ D, D = V2.heap.size := ⟨_, rfl⟩
  rw [← eD] at HD0 ⊢
  have hD : w.heap.size + 1 < D := by omega
  have hGD : ¬ G = D := by omega
  have hDG : ¬ D = G := by omega
  clear eD hGs
  go_loopg [21] O.length (fun gg iv wr => ∃ (k g m cap f mf fcap : Nat) (E : List EBl), k ≤ O.length ∧ gg = O.length - k ∧ iv = .int .i64 k ∧ Hid (bills E = (stB (L, F) O k).1) ∧ Hid (Rn w wr G D (cdR (L, F) O O.length k) g m cap f mf fcap E (stB (L, F) O k).2))
  case atStart => exact ⟨0, g, _, _, f, _, _, E, Nat.zero_le _, rfl, rfl, HE, HD0⟩
  case round =>
    clear HD0 HE
    obtain ⟨k, g, m, cap, f, mf, fcap, E, hk, rfl, rfl, HE, HS⟩ := hrel
    by_cases hkN : k < O.length
    · obtain ⟨b, o, kd, id, who, tt, num, many, rfl, c0, c1, c2, c3, c4, c5, EX⟩ := recBillOpAt (unhide HOC) hkN
      have g0 := ((unhide HS).below.cell (lt_of_cell c0)).trans c0
      have g1 := ((unhide HS).below.cell (lt_of_cell c1)).trans c1
      have g2 := ((unhide HS).below.cell (lt_of_cell c2)).trans c2
      have g3 := ((unhide HS).below.cell (lt_of_cell c3)).trans c3
      have g4 := ((unhide HS).below.cell (lt_of_cell c4)).trans c4
      have g5 := ((unhide HS).below.cell (lt_of_cell c5)).trans c5
      have hki : (k : Int) < O.length := by omega
      obtain ⟨V3, eV3⟩ : ∃ V, V = wr.alloc (.cells #[.int .i64 kd, .int .i64 id, .string who, .string tt, .int .i64 num, .int .i64 many] 34) := ⟨_, rfl⟩
      have A4 := Below.alloc1 wr (.cells #[.int .i64 kd, .int .i64 id, .string who, .string tt, .int .i64 num, .int .i64 many] 34)
      have hO := ownV_alloc wr #[.int .i64 kd, .int .i64 id, .string who, .string tt, .int .i64 num, .int .i64 many] 34
      have hsz : V3.heap.size = wr.heap.size + 1 := by rw [eV3, World.size_alloc]
      have hlG := (unhide HS).box.lt
      have hlD := (unhide HS).cds.lt
      have HCL := hide (cdR_len (b := (L, F)) (O := O) hk)
      have HSE := hide (cdR_set (b := (L, F)) (O := O) hkN)
      have HST : Hid (stB (L, F) O (k + 1) = (doB (stB (L, F) O k) (kd, id, who, tt, num, many)).1) := by show _ = _; rw [stB, unhide EX]
      have HCD : Hid (cdB (L, F) O k = (doB (stB (L, F) O k) (kd, id, who, tt, num, many)).2) := by show _ = _; rw [cdB, unhide EX]
      have Q1 : Hid (Calls Try.prog 34 #[vBook (.slice (some ⟨g, 0, none⟩) m cap) (.slice (some ⟨f, 0, none⟩) mf fcap), vBillOp kd id who tt num many] V3 fun e w' => PAns (fun k => rA w.heap.size G D k ∧ k ≠ wr.heap.size) V3 (doB (stB (L, F) O k) (kd, id, who, tt, num, many)) e w') := by
        have hbd := unhide HBD k
        have hp := ((unhide HS).pbk.mono (A' := fun k => rA w.heap.size G D k ∧ k ≠ wr.heap.size) (fun k hk h => ⟨h, by omega⟩)).step A4
        rw [← eV3] at hp
        have he := unhide HE
        generalize stB (L, F) O k = Z at *
        obtain ⟨Z1, Z2⟩ := Z
        dsimp only at he hp
        subst he
        exact behindBillOp_any _ g m cap f mf fcap E Z2 kd id who tt num many V3 hp (fun k hk => ⟨by unfold rA; omega, by omega⟩) hbd
      have HNX := hide fun (w2 : World) (g' m' cap' f' mf' fcap' : Nat) (E' : List EBl) (F' : List Int) hP (hK : Kept (fun k => rA w.heap.size G D k ∧ k ≠ wr.heap.size) (wr.alloc (.cells #[.int .i64 kd, .int .i64 id, .string who, .string tt, .int .i64 num, .int .i64 many] 34)) w2) (c : Int) => (unhide HS).next (k := k) (g' := g') (m' := m') (cap' := cap') (f' := f') (mf' := mf') (fcap' := fcap') (E' := E') (F' := F') hP hK (by rw [unhide HCL]; exact hkN) c
      have HS1 := hide ((unhide HS).step A4)
      rw [← eV3] at HNX HS1 hO
      have HO := hide hO
      clear c0 c1 c2 c3 c4 c5 EX HE HS A4 hO
      unfold vBook vBillOp at Q1
      have x0 := (unhide HS1).box.cell (i := 0) rfl
      have x1 := (unhide HS1).box.cell (i := 1) rfl
      obtain ⟨gB, egB⟩ : ∃ u, u = wr.heap.size := ⟨_, rfl⟩
      have HEB := hide egB
      go_upto_region 8 with (fail)
      rw [← eV3]
      rw [← egB] at HO ⊢
      clear eV3 egB
      have o0 := (unhide HO).cell (i := 0) rfl
      have o1 := (unhide HO).cell (i := 1) rfl
      have o2 := (unhide HO).cell (i := 2) rfl
      have o3 := (unhide HO).cell (i := 3) rfl
      have o4 := (unhide HO).cell (i := 4) rfl
      have o5 := (unhide HO).cell (i := 5) rfl
      go_wp2_with fail
      refine (unhide Q1).mono ?_
      rintro e w2 hPA
      obtain ⟨g', m', cap', f', mf', fcap', E', rfl, eE', hP', hK⟩ := hPA
      have HN2 := hide (unhide HNX w2 g' m' cap' f' mf' fcap' E' _ hP' hK (doB (stB (L, F) O k) (kd, id, who, tt, num, many)).2)
      have HX2 := hide ((unhide HS1).box.kept hK (by unfold rA; omega))
      have HC2 := hide ((unhide HS1).cds.kept hK (by unfold rA; omega))
      have HE2 := hide eE'
      rw [← unhide HCD, unhide HSE] at HN2
      rw [← unhide HST] at HN2 HE2
      rw [← unhide HCD]
      clear HNX HST HSE HCD eE' hP' hK Q1 HS1 HO o0 o1 o2 o3 o4 o5 x0 x1
      have y0 := (unhide HX2).cell (i := 0) rfl
      have y1 := (unhide HX2).cell (i := 1) rfl
      have yf := (unhide HX2).frozen
      have fz := (unhide HC2).frozen k
      have ck := (unhide HC2).cell (ints_get _ (show k < (cdR (L, F) O O.length k).length by rw [unhide HCL]; exact hkN))
      clear HCL HEB
      unfold vBook
      go_wp2
      go_roundg (O.length - (k + 1))
      case measure => omega
      case rel => exact ⟨k + 1, g', m', cap', f', mf', fcap', E', by omega, rfl, by go_num, HE2, HN2⟩
    · have hkk : k = O.length := by omega
      have he := unhide HE
      have h9 := unhide HS
      rw [hkk] at he h9
      rw [cdR_done] at h9
      have HR9 := hide (h9.res2 (.slice (some ⟨g, 0, none⟩) m cap) (.slice (some ⟨f, 0, none⟩) mf fcap))
      have HE9 := hide he
      have x0 := h9.box.cell (i := 0) rfl
      have x1 := h9.box.cell (i := 1) rfl
      have r0 := h9.res.cell (i := 0) rfl
      have r1 := h9.res.cell (i := 1) rfl
      have rf := h9.res.frozen
      have hq1 : ¬ G = w.heap.size + 1 := by omega
      clear h9 he HS HE
      go_wp2
      have k0 := (unhide HR9).1.cell (i := 0) rfl
      have k1 := (unhide HR9).1.cell (i := 1) rfl
      refine bodyPost_ret (v := .tuple #[vBook (.slice (some ⟨g, 0, none⟩) m cap) (.slice (some ⟨f, 0, none⟩) mf fcap), .slice (some ⟨D, 0, none⟩) O.length O.length]) (by simp [results, Try.results14, go_sem, vBook, k0, k1]) rfl ?_
      show RAns _ _ _ _ _
      rw [unhide HN]
      exact ⟨g, m, cap, f, mf, fcap, E, D, some ⟨D, 0, none⟩, by rw [cdsB_len], unhide HE9, (unhide HR9).2.2.1, fun _ => ⟨rfl, by omega, (unhide HR9).2.1⟩, (unhide HR9).2.2.2⟩

end

section
open Go.RowKit

theorem specDoBill_any (bv fv : Value) (b : BkT) (kd id : Int) (who tt : ByteArray) (num many : Int) (w : World) (h : BkIn w bv fv b) (hbd : Bd b) (htx : ∀ x ∈ b.1, TxB x) (hto : txtBillOp (kd, id, who, tt, num, many) maxLen) :
    Calls Try.prog 9 #[vBook bv fv, vBillOp kd id who tt num many] w fun e w' => BAns w (doB b (kd, id, who, tt, num, many)) e w' := by
  cases hb : bookB b with
  | false => exact specDoBad_any bv fv b kd id who tt num many w h hbd htx hto (by rw [hb]; rfl)
  | true =>
  cases ho : opB (kd, id, who, tt, num, many) with
  | false => exact specDoBad_any bv fv b kd id who tt num many w h hbd htx hto (by rw [ho]; simp)
  | true =>
  by_cases h1 : kd = 1
  · subst h1
    have hm := op_many ho (Or.inl rfl)
    dsimp only at hm
    obtain ⟨mN, rfl⟩ : ∃ n : Nat, many = n := ⟨many.toNat, by omega⟩
    exact specIssue_any bv fv b id who tt num mN w h hbd htx hto hb ho
  by_cases h4 : kd = 4
  · exact specFree_any bv fv b kd id who tt num many w h hbd htx hto hb ho h1 h4
  · exact specPass_any bv fv b kd id who tt num many w h hbd htx hto hb ho h1 h4
/-- The program's answer, told as the specification's. -/
theorem implDoBill_b (bv fv : Value) (b : BkT) (kd id : Int) (who tt : ByteArray) (num many : Int) (w : World) (h : BkIn w bv fv b) (hbd : Bd b) :
    Calls Try.prog 8 #[vBook bv fv, vBillOp kd id who tt num many] w fun e w' => BAns w (doB b (kd, id, who, tt, num, many)) e w' := by
  refine (implDoBill_any bv fv b kd id who tt num many w h hbd).mono ?_
  rintro e w' ⟨g, m, cap, f, mf, fcap, E, rfl, eE, hP, hb⟩
  refine ⟨_, _, rfl, fun W2 hk => ?_, hb⟩
  have h9 := (hP.kept hk (fun k hA hT => by have hA : w.heap.size ≤ k := hA; have hT : k < w.heap.size := hT; omega)).ownB.inn
  rw [eE] at h9
  exact h9
structure Lw (w W : World) (av fv : Value) (ov : List Value) : Prop where
  below : Below w.heap.size w W
  arg : OwnV W w.heap.size [av, fv]
  op : OwnV W (w.heap.size + 1) ov
section
variable {w W W' : World} {av fv : Value} {ov : List Value}
theorem Lw.step (h : Lw w W av fv ov) (hb : Below W.heap.size W W') : Lw w W' av fv ov := ⟨Below.step h.below hb, h.arg.step hb, h.op.step hb⟩
theorem Lw.kept {T : Nat → Prop} (h : Lw w W av fv ov) (hk : Kept T W W') (hT : ∀ k, T k → w.heap.size + 1 < k) : Lw w W' av fv ov :=
  ⟨h.below.trans (hk.below h.below.size fun k x => by have := hT k x; omega), h.arg.kept hk (fun x => by have := hT _ x; omega), h.op.kept hk (fun x => by have := hT _ x; omega)⟩
theorem Lw.lt (h : Lw w W av fv ov) : w.heap.size + 1 < W.heap.size := h.op.lt
theorem kept_two (W : World) (g : Nat) (x y : Value) : Kept (fun b => b = g) W ((W.setCell ⟨g, 0, none⟩ x).setCell ⟨g, 1, none⟩ y) :=
  Kept.setCell (T := fun b => b = g) (Kept.setCell (T := fun b => b = g) (Kept.refl _ W) (p := ⟨g, 0, none⟩) rfl x) (p := ⟨g, 1, none⟩) rfl y
theorem kept_lt {n g : Nat} (hg : g < n) (h : Kept (fun b => b = g) W W') : Kept (fun b => b < n) W W' := h.mono fun k _ e => by have e : k = g := e; show k < n; omega
end

end

section
open Go.RowKit

theorem txB_default : TxB default := ⟨Nat.zero_le _, Nat.zero_le _, fun _ hi => absurd hi (Nat.not_lt_zero _)⟩
theorem txB_at {L : List BlT} (h : ∀ x ∈ L, TxB x) (k : Nat) : TxB (L.getD k default) := by
  by_cases hk : k < L.length
  · rw [getD_lt hk]; exact h _ (List.getElem_mem _)
  · rw [List.getD, List.getElem?_eq_none (by omega)]; exact txB_default
theorem tx_rep {n : Nat} {s : ByteArray} (hs : s.size ≤ maxLen) : ∀ i, i < (List.replicate n s).length → ((List.replicate n s).getD i default).size ≤ maxLen := fun i hi => by
  rw [getD_lt hi, List.getElem_replicate]; exact hs
theorem pass_tx {x y : BlT} {o : BillOpT} (h : passV x o = some y) (hx : TxB x) (ho : txtBillOp o maxLen) : TxB y := by
  obtain ⟨h1, h2, h3⟩ := hx
  unfold passV at h
  repeat' split at h
  all_goals cases h
  · exact ⟨h1, ho.2, h3⟩
  · refine ⟨h1, h2, fun i hi => ?_⟩
    dsimp only at hi ⊢
    rw [List.length_set] at hi
    by_cases e : o.2.2.2.2.1.toNat = i
    · subst e
      rw [getD_lt (by rw [List.length_set]; exact hi), List.getElem_set_self]
      exact ho.2
    · rw [getD_lt (by rw [List.length_set]; exact hi), List.getElem_set_ne e]
      have := h3 i hi
      rwa [getD_lt hi] at this
  · exact ⟨h1, h2, tx_rep (by exact Nat.zero_le _)⟩
  · exact ⟨h1, h2, tx_rep ho.1⟩
theorem do_tx {b : BkT} {o : BillOpT} (h : ∀ x ∈ b.1, TxB x) (ho : txtBillOp o maxLen) : ∀ x ∈ (doB b o).1.1, TxB x := by
  unfold doB
  split
  · exact h
  · split
    · split
      · exact h
      · intro x hx
        rcases mem_ins hx with hx | rfl
        · exact h x hx
        · exact ⟨ho.1, ho.2, tx_rep ho.1⟩
    · split
      · exact h
      · split
        · exact h
        · split
          · exact h
          · rename_i y hy
            intro x hx
            dsimp only at hx
            rcases List.mem_or_eq_of_mem_set hx with hx | rfl
            · exact h x hx
            · exact pass_tx hy (txB_at h _) ho
theorem st_tx {b : BkT} {O : List BillOpT} (h : ∀ x ∈ b.1, TxB x) (ho : ∀ i, i < O.length → txtBillOp (O.getD i default) maxLen) : ∀ k, k ≤ O.length → ∀ x ∈ (stB b O k).1, TxB x
  | 0, _ => h
  | k + 1, hk => do_tx (st_tx h ho k (by omega)) (ho k (by omega))
theorem runN_le (O : List BillOpT) : runN O ≤ O.length := by unfold runN; split <;> omega
theorem runN_200 (O : List BillOpT) : runN O ≤ 200 := by unfold runN; split <;> omega
theorem runN_lt {O : List BillOpT} {k : Nat} (h : k < runN O) : k < O.length ∧ O.length ≤ 200 := by unfold runN at h; split at h <;> omega
theorem runN_ge {O : List BillOpT} {k : Nat} (h : ¬ k < runN O) (h2 : O.length ≤ 200) : ¬ k < O.length := by unfold runN at h; split at h <;> omega

/-- What is held while ops are done. -/
structure Sr (w wr : World) (G D : Nat) (bv fv : Value) (b : BkT) (m cap : Nat) (cs : List Int) : Prop where
  below : Below w.heap.size w wr
  res : OwnV wr (w.heap.size + 1) [.slice none 0 0, .slice none 0 0]
  box : OwnV wr G [bv, fv]
  bk : ∀ W2, Kept (fun k => k = G ∨ k ≤ w.heap.size + 1 ∨ k = D) wr W2 → BkIn W2 bv fv b
  cds : RowB 3 1 eI 0 wr (some ⟨D, 0, none⟩) m cap cs
  ap : w.heap.size + 1 < G ∧ w.heap.size + 1 < D ∧ G ≠ D
section
variable {w wr wx w' : World} {G D : Nat} {bv fv bv' fv' : Value} {b b' : BkT} {m cap : Nat} {cs : List Int}
theorem Sr.step (h : Sr w wr G D bv fv b m cap cs) (hb : Below wr.heap.size wr w') : Sr w w' G D bv fv b m cap cs :=
  ⟨Below.step h.below hb, h.res.step hb, h.box.step hb, fun W2 hk => h.bk W2 ((kept_of_below hb).trans hk), h.cds.below hb, h.ap⟩
theorem Sr.lts (h : Sr w wr G D bv fv b m cap cs) : G < wr.heap.size ∧ D < wr.heap.size := ⟨h.box.lt, (h.cds.ownG (by omega)).2.2.2.1⟩
/-- The book's box behind the store of the new book. -/
theorem Sr.put (h : Sr w wr G D bv fv b m cap cs) (hb : Below wr.heap.size wr wx) (hbk : ∀ W2, Kept (fun k => k < wr.heap.size) wx W2 → BkIn W2 bv' fv' b') :
    Sr w ((wx.setCell ⟨G, 0, none⟩ bv').setCell ⟨G, 1, none⟩ fv') G D bv' fv' b' m cap cs := by
  obtain ⟨a1, a2, a3⟩ := h.ap
  obtain ⟨l1, l2⟩ := h.lts
  have h2 := h.step hb
  have hkG := kept_two wx G bv' fv'
  refine ⟨h2.below.trans (hkG.below h2.below.size (fun k e => by have e : k = G := e; omega)), h2.res.kept hkG (by omega), (h2.box.set 0 bv' (by simp)).set 1 fv' (by simp), fun W2 hk => ?_, h2.cds.kept hkG (fun g e _ _ h3 => by simp only [Option.some.injEq, Addr.mk.injEq, and_true] at e; have h3 : g = G := h3; omega), h.ap⟩
  exact hbk W2 ((hkG.mono (T' := fun k => k < wr.heap.size) (fun k _ e => by have e : k = G := e; show k < _; omega)).trans (hk.mono (fun k _ e => by show k < _; omega)))
/-- A code more. -/
theorem Sr.code (h : Sr w wr G D bv fv b m cap cs) {c : Int} {g' cap' : Nat} (hL : RowB 3 1 eI 0 w' (some ⟨g', 0, none⟩) (m + 1) cap' (cs ++ [c])) (hK : Kept (fun k => (some ⟨D, 0, none⟩ : Option Addr) = some ⟨k, 0, none⟩) wr w') (hor : (some ⟨D, 0, none⟩ : Option Addr) = some ⟨g', 0, none⟩ ∨ g' = wr.heap.size) :
    Sr w w' G g' bv fv b (m + 1) cap' (cs ++ [c]) := by
  obtain ⟨a1, a2, a3⟩ := h.ap
  obtain ⟨l1, l2⟩ := h.lts
  have hK : Kept (fun k => k = D) wr w' := hK.mono (fun k _ e => by simp only [Option.some.injEq, Addr.mk.injEq, and_true] at e; exact e.symm)
  have hg : g' = D ∨ g' = wr.heap.size := hor.elim (fun e => by simp only [Option.some.injEq, Addr.mk.injEq, and_true] at e; exact Or.inl e.symm) Or.inr
  refine ⟨h.below.trans (hK.below h.below.size (fun k e => by have e : k = D := e; omega)), h.res.kept hK (by omega), h.box.kept hK (by omega), fun W2 hk => ?_, hL, by omega⟩
  refine h.bk W2 (Kept.mono (T := fun k => k = G ∨ k ≤ w.heap.size + 1 ∨ k = D ∨ k = wr.heap.size) ((hK.mono (fun k _ e => Or.inr (Or.inr (Or.inl e)))).trans (hk.mono (fun k _ e => by omega))) (fun k hk e => by omega))
/-- The whole answer of the specification's RunBills. -/
def RBAns (w : World) (b : BkT) (cs : List Int) (e : Ending) (w' : World) : Prop :=
  ∃ bv fv co m cap, e = .returned (.tuple #[vBook bv fv, .slice co m cap]) ∧ (∀ W2, Kept (fun k => k < w.heap.size) w' W2 → BkIn W2 bv fv b ∧ IntsIn W2 (.slice co m cap) cs) ∧ Below w.heap.size w w'
theorem Sr.fin (h : Sr w wr G D bv fv b m cap cs) : OwnV ((wr.setCell ⟨w.heap.size + 1, 0, none⟩ bv).setCell ⟨w.heap.size + 1, 1, none⟩ fv) (w.heap.size + 1) [bv, fv] ∧ (∀ W2, Kept (fun k => k < w.heap.size) ((wr.setCell ⟨w.heap.size + 1, 0, none⟩ bv).setCell ⟨w.heap.size + 1, 1, none⟩ fv) W2 → BkIn W2 bv fv b ∧ IntsIn W2 (.slice (some ⟨D, 0, none⟩) m cap) cs) ∧ Below w.heap.size w ((wr.setCell ⟨w.heap.size + 1, 0, none⟩ bv).setCell ⟨w.heap.size + 1, 1, none⟩ fv) := by
  obtain ⟨a1, a2, a3⟩ := h.ap
  have hkR := kept_two wr (w.heap.size + 1) bv fv
  refine ⟨(h.res.set 0 bv (by simp)).set 1 fv (by simp), fun W2 hk => ?_, h.below.trans (hkR.below h.below.size (fun k e => by have e : k = _ := e; omega))⟩
  have hk2 : Kept (fun k => k ≤ w.heap.size + 1) wr W2 := (hkR.mono (fun k _ e => by have e : k = _ := e; show k ≤ _; omega)).trans (hk.mono (fun k _ e => by have e : k < _ := e; show k ≤ _; omega))
  refine ⟨h.bk W2 (hk2.mono (fun k _ e => Or.inr (Or.inl e))), ?_⟩
  obtain ⟨p1, p2, p3, _, p5⟩ := (h.cds.kept hk2 (fun g e _ _ h3 => by simp only [Option.some.injEq, Addr.mk.injEq, and_true] at e; have h3 : g ≤ _ := h3; omega)).ownG (by omega)
  subst p5
  rw [recI] at p1
  exact p1.intsIn p2 p3
end

end

section
open Go.RowKit

set_option maxRecDepth 100000 in
set_option maxHeartbeats 8000000 in
theorem specRunBills_any (bv fv ov : Value) (b : BkT) (O : List BillOpT) (w : World) (h : BkIn w bv fv b) (hbd : Bd b) (htx : ∀ x ∈ b.1, TxB x) (ho : RBillOp w ov O) (hot : ∀ i, i < O.length → txtBillOp (O.getD i default) maxLen) :
    Calls Try.prog 23 #[vBook bv fv, ov] w fun e w' => RBAns w (stB b O (runN O)) (cdsB b O (runN O)) e w' := by
  have HBD := hide fun k => st_bd hbd O k
  have HTX := hide fun k hk => st_tx htx hot k hk
  have HOT := hide hot
  have QC := hide fun V (hV : Below w.heap.size w V) => specCopy_any bv fv b V (h.below hV) hbd
  obtain ⟨L, F⟩ := b
  have h' := h
  obtain ⟨⟨ao, cap0, rfl, -⟩, ⟨fo, fcap0, rfl, -⟩⟩ := h'
  obtain ⟨oo, ocap, rfl, hol, hom, hoc⟩ := ho
  unfold maxLen at hom
  have HOC := hide hoc
  obtain ⟨V1, eV1⟩ : ∃ V, V = (w.alloc (.cells #[.slice ao L.length cap0, .slice fo F.length fcap0] 27)).alloc (.cells #[.slice none 0 0, .slice none 0 0] 27) := ⟨_, rfl⟩
  have hb0 := Below.step (Below.alloc1 w (.cells #[.slice ao L.length cap0, .slice fo F.length fcap0] 27)) (Below.alloc1 _ (.cells #[.slice none 0 0, .slice none 0 0] 27))
  have h1 := (ownV_alloc w #[.slice ao L.length cap0, .slice fo F.length fcap0] 27).alloc (.cells #[.slice none 0 0, .slice none 0 0] 27)
  have h3 := ownV_alloc (w.alloc (.cells #[.slice ao L.length cap0, .slice fo F.length fcap0] 27)) #[.slice none 0 0, .slice none 0 0] 27
  simp only [World.size_alloc] at h3
  have hsz : V1.heap.size = w.heap.size + 2 := by rw [eV1]; simp only [World.size_alloc]
  rw [← eV1] at hb0 h1 h3
  have HW : Hid (Below w.heap.size w V1) := hb0
  have HA : Hid (OwnV V1 w.heap.size [.slice ao L.length cap0, .slice fo F.length fcap0]) := h1
  have HR : Hid (OwnV V1 (w.heap.size + 1) [.slice none 0 0, .slice none 0 0]) := h3
  clear h hb0 h1 h3 hbd hoc htx hot
  dsimp only at QC
  unfold vBook at QC
  unfold vBook
  go_enter Try.func23, Try.ntmps23
  go_upto_region 1 with (fail)
  rw [← eV1]
  clear eV1
  have a0 := (unhide HA).cell (i := 0) rfl
  have a1 := (unhide HA).cell (i := 1) rfl
  go_wp2_with fail
  refine (unhide QC _ (unhide HW)).mono ?_
  rintro e wa hs
  obtain ⟨ba, m, cap, f, mf, fcap, E, rfl, eE, hS, hb⟩ := hs
  obtain ⟨V2, eV2⟩ : ∃ V, V = wa.alloc (.cells #[.slice ba m cap, .slice (some ⟨f, 0, none⟩) mf fcap] 27) := ⟨_, rfl⟩
  have hwa := hb.size
  have hV2 : V2.heap.size = wa.heap.size + 1 := by rw [eV2, World.size_alloc]
  have HS : Hid (Sr w (V2.alloc (.cells #[] 3)) wa.heap.size V2.heap.size (.slice ba m cap) (.slice (some ⟨f, 0, none⟩) mf fcap) (L, F) 0 0 []) := by
    have A2 := Below.alloc1 wa (.cells #[.slice ba m cap, .slice (some ⟨f, 0, none⟩) mf fcap] 27)
    have A3 := Below.alloc1 V2 (.cells #[] 3)
    have hx := ownV_alloc wa #[.slice ba m cap, .slice (some ⟨f, 0, none⟩) mf fcap] 27
    rw [← eV2] at A2 hx
    have hS2 := (hS.mono (A' := fun k => w.heap.size + 1 < k ∧ k < wa.heap.size) (fun k hk h => by have h : V1.heap.size ≤ k := h; exact ⟨by omega, hk⟩)).step (Below.step A2 A3)
    refine ⟨Below.step (Below.step (Below.step (unhide HW) hb) A2) A3, (((unhide HR).step hb).step A2).step A3, hx.step A3, fun W2 hk => ?_, rowB_new _ _ _ _ _ (Nat.zero_le _), by omega⟩
    have h9 := (hS2.kept hk (fun k _ hA hT => by have hA := hA; have hT := hT; omega)).inn
    rw [eE] at h9
    exact h9
  have hwG : w.heap.size + 1 < wa.heap.size := by omega
  have hwD : w.heap.size + 1 < V2.heap.size := by omega
  clear eE hS hb HW HA HR a0 a1 hsz QC hV2 hwa
  unfold vBook
  go_upto_region 2 with (fail)
  rw [← eV2]
  clear eV2
  go_upto_region 3 with (fail)
  obtain ⟨G, eG⟩ : ∃ g, g = wa.heap.size := ⟨_, rfl⟩
  obtain ⟨D, eD⟩ : ∃ g, g = V2.heap.size := ⟨_, rfl⟩
  rw [← eG, ← eD] at HS
  rw [← eG] at hwG ⊢
  rw [← eD] at hwD ⊢
  clear eG eD
  obtain ⟨N, eN⟩ : ∃ n, n = runN O := ⟨_, rfl⟩
  have HEN := hide eN
  clear eN
  go_wp2_with fail
  go_loopg [7, 8] N (fun gg cv iv wr => ∃ (k D cap : Nat) (q1 : Option Addr) (n1 q3 : Nat) (p1 : Option Addr) (n2 p3 : Nat), k ≤ N ∧ gg = N - k ∧ cv = .slice (some ⟨D, 0, none⟩) k cap ∧ iv = .int .i64 k ∧ w.heap.size + 1 < D ∧ Hid (Sr w wr G D (.slice q1 n1 q3) (.slice p1 n2 p3) (stB (L, F) O k) k cap (cdsB (L, F) O k)))
  case atStart => exact ⟨0, D, 0, _, _, _, _, _, _, Nat.zero_le _, rfl, rfl, rfl, hwD, HS⟩
  case round =>
    clear HS hwD
    obtain ⟨k, D, cap, q1, n1, q3, p1, n2, p3, hk, rfl, rfl, rfl, hwD, HS⟩ := hrel
    have b0 := (unhide HS).box.cell (i := 0) rfl
    have b1 := (unhide HS).box.cell (i := 1) rfl
    have bf := (unhide HS).box.frozen
    by_cases hkN : k < N
    · have hkO := runN_lt (O := O) (k := k) (by have := unhide HEN; omega)
      have hki : (k : Int) < O.length := by omega
      have hlo : (O.length : Int) ≤ 200 := by omega
      have dl : decide ((O.length : Int) ≤ 200) = true := by simpa using hlo
      obtain ⟨gb, o, kd, id, who, tt, num, many, rfl, c0, c1, c2, c3, c4, c5, EX⟩ := recBillOpAt (unhide HOC) hkO.1
      have g0 := ((unhide HS).below.cell (lt_of_cell c0)).trans c0
      have g1 := ((unhide HS).below.cell (lt_of_cell c1)).trans c1
      have g2 := ((unhide HS).below.cell (lt_of_cell c2)).trans c2
      have g3 := ((unhide HS).below.cell (lt_of_cell c3)).trans c3
      have g4 := ((unhide HS).below.cell (lt_of_cell c4)).trans c4
      have g5 := ((unhide HS).below.cell (lt_of_cell c5)).trans c5
      have hgb : gb < w.heap.size := lt_of_cell c0
      have hlts := (unhide HS).lts
      have hwwr := (unhide HS).below.size
      have HST : Hid (stB (L, F) O (k + 1) = (doB (stB (L, F) O k) (kd, id, who, tt, num, many)).1) := by show _ = _; rw [stB, unhide EX]
      have HCD : Hid (cdsB (L, F) O (k + 1) = cdsB (L, F) O k ++ [(doB (stB (L, F) O k) (kd, id, who, tt, num, many)).2]) := by show _ = _; rw [cdsB_succ, cdB, unhide EX]
      have QD := hide fun V (hV : Kept (fun k => k = G ∨ k ≤ w.heap.size + 1 ∨ k = D) wr V) => specDoBill_any (.slice q1 n1 q3) (.slice p1 n2 p3) (stB (L, F) O k) kd id who tt num many V ((unhide HS).bk V hV) (unhide HBD k) (unhide HTX k (by omega)) (by have h9 := unhide HOT k hkO.1; rw [unhide EX] at h9; exact h9)
      obtain ⟨⟨⟨LL, FF⟩, cd⟩, ev⟩ : ∃ z, z = doB (stB (L, F) O k) (kd, id, who, tt, num, many) := ⟨_, rfl⟩
      rw [← ev] at HST HCD QD
      dsimp only at HST HCD
      clear ev EX c0 c1 c2 c3 c4 c5 HOC
      unfold vBook vBillOp at QD
      obtain ⟨hGw, hDw⟩ := hlts
      have ze1 : ¬ wr.heap.size = G := by omega
      have ze2 : ¬ G = wr.heap.size := by omega
      have ze3 : ¬ wr.heap.size = gb := by omega
      have ze4 : ¬ gb = wr.heap.size := by omega
      have hk200 : k < 200 := by omega
      go_upto_region 6 with (fail)
      go_cut [9, 10] (fun s9 s10 wx => ∃ (gw : Nat) (q4 : Option Addr) (q6 : Nat) (p4 : Option Addr) (p6 : Nat), s9 = .pointer (some ⟨gw, 0, none⟩) ∧ s10 = .int .i64 cd ∧ wr.heap.size ≤ gw ∧ Hid (Below wr.heap.size wr wx) ∧ Hid (OwnV wx gw [.slice q4 LL.length q6, .slice p4 FF.length p6]) ∧ Hid (∀ W2, Kept (fun k => k < wr.heap.size) wx W2 → BkIn W2 (.slice q4 LL.length q6) (.slice p4 FF.length p6) (LL, FF)))
      case first =>
        go_region_held3 (fun w' => w'.cell? ⟨G, 0, none⟩ = some (.slice q1 n1 q3) ∧ w'.cell? ⟨G, 1, none⟩ = some (.slice p1 n2 p3) ∧ w'.cell? ⟨gb, o + k * 6, none⟩ = some (.int .i64 kd) ∧ w'.cell? ⟨gb, o + k * 6 + 1, none⟩ = some (.int .i64 id) ∧ w'.cell? ⟨gb, o + k * 6 + 2, none⟩ = some (.string who) ∧ w'.cell? ⟨gb, o + k * 6 + 3, none⟩ = some (.string tt) ∧ w'.cell? ⟨gb, o + k * 6 + 4, none⟩ = some (.int .i64 num) ∧ w'.cell? ⟨gb, o + k * 6 + 5, none⟩ = some (.int .i64 many)) (go_keep) (first
          | (go_at_call 9; refine (unhide QD _ (by first | exact kept_of_below (Below.refl _ _) | exact kept_of_below (Below.refl _ _).drew | exact kept_of_below (Below.alloc1 _ _) | exact kept_of_below (Below.alloc1 _ _).drew)).mono ?_; rintro e wd hA; obtain ⟨bv2, fv2, rfl, hin, hb⟩ := hA; unfold vBook; dsimp only at hin ⊢; have hin0 := hin wd (Kept.refl _ _); obtain ⟨⟨q4, q6, rfl, -⟩, ⟨p4, p6, rfl, -⟩⟩ := hin0; have HIN := hide hin; (first | (have HB3 : Hid (Below wr.heap.size wr wd) := hb) | (have HB3 : Hid (Below wr.heap.size wr wd) := below_undrewA hb) | (have HB3 : Hid (Below wr.heap.size wr wd) := Below.step (Below.alloc1 _ _) hb; have hgV := OwnV.lt (ownV_alloc wr #[.slice none 0 0, .slice none 0 0] 27); have HNW := hide (OwnV.step (ownV_alloc wr #[.slice none 0 0, .slice none 0 0] 27) hb)) | (have HB3 : Hid (Below wr.heap.size wr wd) := Below.step (Below.alloc1 _ _) (below_undrewA hb); have hgV := OwnV.lt (ownV_alloc wr #[.slice none 0 0, .slice none 0 0] 27); have HNW := hide (OwnV.step (ownV_alloc wr #[.slice none 0 0, .slice none 0 0] 27) (below_undrewA hb)))); (try (have n0 := (unhide HNW).cell (i := 0) rfl; have n1' := (unhide HNW).cell (i := 1) rfl; have nf := (unhide HNW).frozen)); have td0 := ((unhide HS).step (unhide HB3)).box.cell (i := 0) rfl; have td1 := ((unhide HS).step (unhide HB3)).box.cell (i := 1) rfl; have to0 := ((unhide HB3).cell (lt_of_cell g0)).trans g0; have to1 := ((unhide HB3).cell (lt_of_cell g1)).trans g1; have to2 := ((unhide HB3).cell (lt_of_cell g2)).trans g2; have to3 := ((unhide HB3).cell (lt_of_cell g3)).trans g3; have to4 := ((unhide HB3).cell (lt_of_cell g4)).trans g4; have to5 := ((unhide HB3).cell (lt_of_cell g5)).trans g5; have hsz3 := (unhide HB3).size; have zd1 : ¬ wd.heap.size = G := (by omega); have zd2 : ¬ G = wd.heap.size := (by omega); have zd3 : ¬ wd.heap.size = gb := (by omega); have zd4 : ¬ gb = wd.heap.size := (by omega); clear hb hin))
        all_goals
          go_wp2_with fail
          go_meet
          first
            | exact ⟨wd.heap.size, q4, q6, p4, p6, rfl, rfl, by omega, hide (Below.step (unhide HB3) (Below.alloc1 _ _)), hide (ownV_alloc wd #[.slice q4 LL.length q6, .slice p4 FF.length p6] 27), fun W2 hk => (unhide HIN) W2 ((kept_of_below (Below.alloc1 _ _)).trans (hk.mono (fun k _ e => Nat.lt_of_lt_of_le e (by first | exact Nat.le_refl _ | exact (Below.alloc1 _ _).size))))⟩
            | exact ⟨_, q4, q6, p4, p6, rfl, rfl, by omega, hide ((unhide HB3).trans ((kept_two wd _ _ _).below (by omega) (fun k e => by have e : k = _ := e; omega))), hide (((unhide HNW).set 0 (.slice q4 LL.length q6) (by simp)).set 1 (.slice p4 FF.length p6) (by simp)), fun W2 hk => (unhide HIN) W2 ((kept_lt hgV (kept_two wd _ _ _)).trans (hk.mono (fun k _ e => Nat.lt_trans e hgV)))⟩
      case rest =>
        obtain ⟨gw, q4, q6, p4, p6, rfl, rfl, hgw, HBX, HOW, HIN⟩ := hcut
        generalize wc = wx at *
        have hwx := (unhide HBX).size
        have HP := hide ((unhide HS).put (unhide HBX) (unhide HIN))
        have HS1 := hide ((unhide HS).step (unhide HBX))
        clear b0 b1 bf g0 g1 g2 g3 g4 g5 QD HIN HBX HS
        have b0 := (unhide HS1).box.cell (i := 0) rfl
        have b1 := (unhide HS1).box.cell (i := 1) rfl
        have bf := (unhide HS1).box.frozen
        have w0 := (unhide HOW).cell (i := 0) rfl
        have w1 := (unhide HOW).cell (i := 1) rfl
        have zf1 : ¬ gw = G := by omega
        have zf2 : ¬ G = gw := by omega
        obtain ⟨V5, eV5⟩ : ∃ V, V = (wx.setCell ⟨G, 0, none⟩ (.slice q4 LL.length q6)).setCell ⟨G, 1, none⟩ (.slice p4 FF.length p6) := ⟨_, rfl⟩
        rw [← eV5] at HP
        go_upto_region 8 with (fail)
        rw [← eV5]
        clear eV5 w0 w1 b0 b1 bf HS1 HOW
        have A5 := Below.alloc1 V5 (.cells #[.int .i64 cd] 3)
        have HG := hide (ownV_alloc V5 #[.int .i64 cd] 3)
        replace HP := hide ((unhide HP).step A5)
        have HRa := hide (unhide HP).cds
        clear A5
        go_wp2_with (at_builtin; go_must (refine wpList_appRow tyI _ rfl (.tmp 35) (.tmp 37) rfl 0 (some ⟨D, 0, none⟩) k cap (cdsB (L, F) O k) rfl (unhide HRa) (Nat.zero_le _) (by omega) V5.heap.size cd 1 rfl (unhide HG) ?_); intro g' cap' w' hL hKp hBg hat; have HP2 := hide ((unhide HP).code hL hKp hat); clear hL hKp hat hBg)
        rw [← unhide HCD, ← unhide HST] at HP2
        have hap := (unhide HP2).ap
        go_roundg (N - (k + 1))
        case measure => omega
        case rel => exact ⟨k + 1, g', cap', q4, _, q6, p4, _, p6, by omega, rfl, rfl, by go_num, hap.2.1, HP2⟩
    · have hkE : k = N := by omega
      have HF := hide (unhide HS).fin
      have r0 := (unhide HS).res.cell (i := 0) rfl
      have r1 := (unhide HS).res.cell (i := 1) rfl
      have rf := (unhide HS).res.frozen
      have zr1 : ¬ G = w.heap.size + 1 := by omega
      have zr2 : ¬ w.heap.size + 1 = G := by omega
      have hge : O.length ≤ 200 → ¬ k < O.length := fun h2 => runN_ge (by have := unhide HEN; omega) h2
      subst hkE
      clear HS HOC HOT HTX HBD
      have HLK : Hid (cdsB (L, F) O k = cdsB (L, F) O k) := rfl
      by_cases hkO : (k : Int) < O.length
      · have hno : ¬ (O.length : Int) ≤ 200 := fun h2 => absurd (show k < O.length by omega) (hge (by omega))
        clear hge
        go_wp2
        have k0 := (unhide HF).1.cell (i := 0) rfl
        have k1 := (unhide HF).1.cell (i := 1) rfl
        refine bodyPost_ret (v := .tuple #[vBook (.slice q1 n1 q3) (.slice p1 n2 p3), .slice (some ⟨D, 0, none⟩) k cap]) (by simp [results, Try.results23, go_sem, vBook, k0, k1]) rfl ?_
        show RBAns _ _ _ _ _
        rw [← unhide HEN]
        exact ⟨_, _, _, _, _, rfl, (unhide HF).2.1, (unhide HF).2.2⟩
      · clear hge
        go_wp2
        have k0 := (unhide HF).1.cell (i := 0) rfl
        have k1 := (unhide HF).1.cell (i := 1) rfl
        refine bodyPost_ret (v := .tuple #[vBook (.slice q1 n1 q3) (.slice p1 n2 p3), .slice (some ⟨D, 0, none⟩) k cap]) (by simp [results, Try.results23, go_sem, vBook, k0, k1]) rfl ?_
        show RBAns _ _ _ _ _
        rw [← unhide HEN]
        exact ⟨_, _, _, _, _, rfl, (unhide HF).2.1, (unhide HF).2.2⟩

end

section
open Go.RowKit

structure Lr (w W : World) (av fv : Value) : Prop where
  below : Below w.heap.size w W
  arg : OwnV W w.heap.size [av, fv]
/-- Codes in a row of their own, or none. -/
def Cdw (W : World) (co : Option Addr) (D : Nat) (cs : List Int) : Prop := cs ≠ [] → co = some ⟨D, 0, none⟩ ∧ OwnV W D (ints cs)
section
variable {w W W' : World} {av fv : Value} {co : Option Addr} {D : Nat} {cs : List Int}
theorem Lr.step (h : Lr w W av fv) (hb : Below W.heap.size W W') : Lr w W' av fv := ⟨Below.step h.below hb, h.arg.step hb⟩
theorem Lr.kept {T : Nat → Prop} (h : Lr w W av fv) (hk : Kept T W W') (hT : ∀ k, T k → w.heap.size < k) : Lr w W' av fv :=
  ⟨h.below.trans (hk.below h.below.size fun k x => by have := hT k x; omega), h.arg.kept hk (fun x => by have := hT _ x; omega)⟩
theorem Lr.lt (h : Lr w W av fv) : w.heap.size < W.heap.size := h.arg.lt
theorem Cdw.step (h : Cdw W co D cs) (hb : Below W.heap.size W W') : Cdw W' co D cs := fun hc => ⟨(h hc).1, (h hc).2.step hb⟩
theorem Cdw.kept {T : Nat → Prop} (h : Cdw W co D cs) (hk : Kept T W W') (hT : cs ≠ [] → ¬ T D) : Cdw W' co D cs := fun hc => ⟨(h hc).1, (h hc).2.kept hk (hT hc)⟩
theorem Cdw.inn (h : Cdw W co D cs) (hl : cs.length ≤ maxLen) : IntsIn W (.slice co cs.length cs.length) cs := by
  by_cases hc : cs = []
  · subst hc
    exact ⟨co, 0, rfl, Nat.le_refl _, Nat.zero_le _, fun _ hi => absurd hi (Nat.not_lt_zero _)⟩
  · obtain ⟨rfl, ho⟩ := h hc
    exact ho.intsIn (Nat.le_refl _) hl
end
theorem markCd (co : Option Addr) (D : Nat) (cs : List Int) (k : Int) (W : World) (h : Cdw W co D cs) (hs : cs.length ≤ 200) (h0 : 0 ≤ k) (h1 : k ≤ 4611686018427387904) :
    Calls Try.prog 28 #[.slice co cs.length cs.length, .int .i64 k] W fun e w' => e = .returned (.int .i64 (k + cs.length)) ∧ Kept (fun b => b = D ∧ cs ≠ []) W w' ∧ Cdw w' co D (marks k cs.length) := by
  refine (markIntS_any co cs.length cs k D W h (by omega) h0 h1).mono ?_
  rintro e w' ⟨rfl, hk, hm⟩
  refine ⟨rfl, hk, fun hc => ?_⟩
  have hne : cs ≠ [] := fun e => hc (by subst e; rfl)
  exact ⟨(h hne).1, hm hne⟩
theorem heldCd (co : Option Addr) (D n : Nat) (k : Int) (W : World) (h : Cdw W co D (marks k n)) (hs : n ≤ 200) (h0 : 0 ≤ k) (h1 : k ≤ 4611686018427387904) :
    Calls Try.prog 29 #[.slice co n n, .int .i64 k] W fun e w' => e = .returned (.int .i64 (k + n)) ∧ Below W.heap.size W w' := by
  have hi := h.inn (by rw [marks_len]; unfold maxLen; omega)
  rw [marks_len] at hi
  refine (heldIntS_any _ (marks k n) k W hi (by rw [marks_len]) (by rw [marks_len]; omega) h0 h1).mono ?_
  rintro e w' ⟨rfl, rfl⟩
  rw [marks_len]
  exact ⟨rfl, Below.refl _ _⟩
theorem endB {E : List EBl} {F : List Int} (h : Bd (bills E, F)) : 0 ≤ endE E 1 + (F.length : Int) ∧ endE E 1 + (F.length : Int) ≤ 1099586028096000 := by
  have h8 : F.length ≤ 1048576 := h.2.1
  have h9 := endE_top (E := E) (k := 1) (by have := h.1; simpa using this) (fun i hi => h.2.2 _ (by rw [show (E.getD i default) = E[i] by simp [List.getD, hi]]; exact List.mem_map.2 ⟨E[i], List.getElem_mem _, rfl⟩)) (by omega) (by omega)
  omega
/-- The program's answer, told as the specification's. -/
theorem implRunBills_b (bv fv ov : Value) (b : BkT) (O : List BillOpT) (w : World) (h : BkIn w bv fv b) (hbd : Bd b) (ho : RBillOp w ov O) :
    Calls Try.prog 14 #[vBook bv fv, ov] w fun e w' => RBAns w (stB b O (runN O)) (cdsB b O (runN O)) e w' := by
  refine (implRunBills_any bv fv ov b O w h hbd ho).mono ?_
  rintro e w' ⟨g, m, cap, f, mf, fcap, E, D, co, rfl, eE, hP, hC, hb⟩
  refine ⟨_, _, _, _, _, rfl, fun W2 hk => ⟨?_, ?_⟩, hb⟩
  · have h9 := (hP.kept hk (fun k hA hT => by have hA : w.heap.size ≤ k := hA.1; have hT : k < w.heap.size := hT; omega)).ownB.inn
    rw [eE] at h9
    exact h9
  · have hc : Cdw w' co D (cdsB b O (runN O)) := fun hc => ⟨(hC hc).1, (hC hc).2.2⟩
    exact (hc.kept hk (fun hc hT => by have := (hC hc).2.1; have hT : D < w.heap.size := hT; omega)).inn (by rw [cdsB_len]; have := runN_200 O; unfold maxLen; omega)

set_option maxRecDepth 1000000 in
set_option maxHeartbeats 16000000 in
theorem lawRunBills_any (bv fv : Value) (b : BkT) (ov : Value) (O : List BillOpT) (w : World) (h : BkIn w bv fv b) (ht : ∀ x ∈ b.1, TxB x) (ho : RBillOp w ov O) (hto : ∀ i, i < O.length → txtBillOp (O.getD i default) maxLen) :
    Calls Try.prog 5 #[vBook bv fv, ov] w fun e w' => e = .returned (.bool true) ∧ Below w.heap.size w w' := by
  have hx := h
  have hy := ho
  obtain ⟨⟨ao, cap, rfl, -⟩, ⟨fo, fcap, rfl, -⟩⟩ := hx
  obtain ⟨oo, ocap, rfl, -⟩ := hy
  have HV := hide h
  have HT := hide ht
  have HVO := hide ho
  have A1 := Below.alloc1 w (.cells #[.slice ao b.1.length cap, .slice fo b.2.length fcap] 47)
  obtain ⟨X0, eX0⟩ : ∃ X, X = w.alloc (.cells #[.slice ao b.1.length cap, .slice fo b.2.length fcap] 47) := ⟨_, rfl⟩
  have HL : Hid (Lr w X0 (.slice ao b.1.length cap) (.slice fo b.2.length fcap)) := by
    show Lr _ _ _ _
    rw [eX0]
    exact ⟨A1, ownV_alloc _ _ _⟩
  have HSZ := hide fun V (hV : Below w.heap.size w V) l h0 h1 => szBook_any _ _ b l V ((unhide HV).below hV) (fun i hi => by rw [getD_lt hi]; exact unhide HT _ (List.getElem_mem _)) h0 h1
  have HSO := hide fun V (hV : Below w.heap.size w V) l h0 h1 => szBillOpS_any _ O l V ((unhide HVO).below hV) hto h0 h1
  have HTO0 := hide fun V (hV : Below w.heap.size w V) hbd => toBook_any _ _ b V ((unhide HV).below hV) hbd
  have HTP0 := hide fun V (hV : Below w.heap.size w V) hs => toBillOpS_any _ O V ((unhide HVO).below hV) hs
  have HSP0 := hide fun V bv fv ov (hV : BkIn V bv fv b) (hO : RBillOp V ov O) hbd => specRunBills_any bv fv ov b O V hV hbd (unhide HT) hO hto
  have HIP0 := hide fun V bv fv ov (hV : BkIn V bv fv b) (hO : RBillOp V ov O) hbd => implRunBills_any bv fv ov b O V hV hbd hO
  have HIB0 := hide fun V bv fv ov (hV : BkIn V bv fv b) (hO : RBillOp V ov O) hbd => implRunBills_b bv fv ov b O V hV hbd hO
  have HBD0 := hide fun (hbd : Bd b) => st_bd hbd O (runN O)
  have hCl : (cdsB b O (runN O)).length ≤ 200 := by rw [cdsB_len]; exact runN_200 O
  obtain ⟨⟨LL, FF⟩, ev⟩ : ∃ z, z = stB b O (runN O) := ⟨_, rfl⟩
  obtain ⟨CS, ec⟩ : ∃ z, z = cdsB b O (runN O) := ⟨_, rfl⟩
  rw [← ev] at HSP0 HIP0 HIB0 HBD0
  rw [← ec] at HSP0 HIP0 HIB0 hCl
  clear ev ec h ht hto ho A1
  unfold vBook at HSZ HTO0 HSP0 HIP0 HIB0 ⊢
  go_enter Try.func5, Try.ntmps5
  go_upto_region 2 with (fail)
  rw [← eX0]
  clear eX0
  have a0 := (unhide HL).arg.cell (i := 0) rfl
  have a1 := (unhide HL).arg.cell (i := 1) rfl
  go_wp2_with fail
  refine (unhide HSZ _ (unhide HL).below _ (by omega) (by omega)).mono ?_
  rintro e v0 ⟨r, rfl, hr0, hr1, hr2, hb⟩
  replace HL := hide ((unhide HL).step hb)
  have HR := hide hr2
  clear hb hr2 HSZ a0 a1
  by_cases hr : r < 0
  · have HW := hide (unhide HL).below
    go_wp2
    go_ret
    exact ⟨rfl, unhide HW⟩
  have HBD := hide (unhide HR (by omega))
  clear HR
  go_wp2_with fail
  refine (unhide HSO _ (unhide HL).below _ (by omega) (by omega)).mono ?_
  rintro e X ⟨r', rfl, ⟨hs0, hs1, hs2⟩, hb⟩
  replace HL := hide ((unhide HL).step hb)
  have HR := hide hs2
  clear hb hs2 HSO
  by_cases hr' : r' < 0
  · have HW := hide (unhide HL).below
    go_wp2
    go_ret
    exact ⟨rfl, unhide HW⟩
  have hOl : O.length ≤ 1048576 := unhide HR (by omega)
  clear HR
  have HTO := hide fun V hV => unhide HTO0 V hV (unhide HBD)
  have HTP := hide fun V hV => unhide HTP0 V hV hOl
  have HSP := hide fun V bv fv ov hV hO => unhide HSP0 V bv fv ov hV hO (unhide HBD)
  have HIP := hide fun V bv fv ov hV hO => unhide HIP0 V bv fv ov hV hO (unhide HBD)
  have HIB := hide fun V bv fv ov hV hO => unhide HIB0 V bv fv ov hV hO (unhide HBD)
  have HBB := hide (unhide HBD0 (unhide HBD))
  have hOm : O.length ≤ maxLen := by unfold maxLen; omega
  have hCm : CS.length ≤ maxLen := by unfold maxLen; omega
  have HOm := hide hOm
  have HCm := hide hCm
  clear HTO0 HTP0 HSP0 HIP0 HIB0 HBD0 hOm hCm
  have a0 := (unhide HL).arg.cell (i := 0) rfl
  have a1 := (unhide HL).arg.cell (i := 1) rfl
  go_wp2_with fail
  refine (unhide HTO _ (unhide HL).below).mono ?_
  rintro e v1 ⟨bv1, fv1, E1, rfl, eB1, ho1, hb⟩
  replace HL := hide ((unhide HL).step hb)
  have HK1 : Hid (BkIn v1 bv1 fv1 b) := (by have h9 := ho1.inn; rw [eB1] at h9; exact h9)
  obtain ⟨⟨ba1, bc1, rfl, -⟩, ⟨fa1, fc1, rfl, -⟩⟩ := unhide HK1
  clear hb ho1 eB1 a0 a1
  go_wp2_with fail
  refine (unhide HTP _ (unhide HL).below).mono ?_
  rintro e v2 ⟨go1, rfl, -, ho1, hb⟩
  replace HL := hide ((unhide HL).step hb)
  replace HK1 := hide ((unhide HK1).below hb)
  have HR1 := hide (OwnV.recsIn ho1 (Nat.le_refl _) (unhide HOm))
  clear hb ho1
  go_wp2_with fail
  refine (unhide HSP _ _ _ _ (unhide HK1) (unhide HR1)).mono ?_
  rintro e v3 hA
  obtain ⟨bw, fw, wo, wm, wcap, rfl, hin, hb⟩ := hA
  obtain ⟨hin0, hci⟩ := hin v3 (Kept.refl _ _)
  have hin1 := hin0
  obtain ⟨⟨q1, q3, rfl, -⟩, ⟨p1, p3, rfl, -⟩⟩ := hin1
  obtain rfl : wm = CS.length := by obtain ⟨_, _, e, -⟩ := hci; simp only [Value.slice.injEq] at e; exact e.2.1
  unfold vBook
  dsimp only at hin0 ⊢
  replace HL := hide ((unhide HL).step hb)
  clear hb hin HK1 HR1
  have HKW := hide hin0
  have HCW := hide hci
  have hlw := (unhide HL).lt
  clear hin0 hci HSP
  obtain ⟨VA, eVA⟩ : ∃ z, z = v3.alloc (.cells #[.slice q1 LL.length q3, .slice p1 FF.length p3] 27) := ⟨_, rfl⟩
  have hb := Below.alloc1 v3 (.cells #[.slice q1 LL.length q3, .slice p1 FF.length p3] 27)
  have Hgw := hide (ownV_alloc v3 #[.slice q1 LL.length q3, .slice p1 FF.length p3] 27)
  have hsVA : v3.heap.size < VA.heap.size := by rw [eVA, World.size_alloc]; omega
  go_upto_region 9 with (fail)
  rw [← eVA] at hb Hgw ⊢
  clear eVA
  replace HL := hide ((unhide HL).step hb)
  replace HKW := hide ((unhide HKW).below hb)
  replace HCW := hide ((unhide HCW).below hb)
  obtain ⟨gw, egw⟩ : ∃ z, z = v3.heap.size := ⟨_, rfl⟩
  rw [← egw] at Hgw ⊢
  have hgw1 : v3.heap.size ≤ gw := by omega
  have hgw2 : gw < VA.heap.size := by omega
  have hgw3 : gw ≤ v3.heap.size := by omega
  clear egw hb
  have HZ := hide (Below.refl VA.heap.size VA)
  have hgw : w.heap.size < gw := by omega
  clear hlw hgw1 hgw3 hsVA
  have a0 := (unhide HL).arg.cell (i := 0) rfl
  have a1 := (unhide HL).arg.cell (i := 1) rfl
  go_wp2_with fail
  refine (unhide HTO _ (unhide HL).below).mono ?_
  rintro e VB ⟨bvx, fvx, Ex, rfl, eBx, hox, hb⟩
  replace HL := hide ((unhide HL).step hb)
  replace Hgw := hide ((unhide Hgw).step hb)
  replace HZ := hide (Below.step (unhide HZ) hb)
  have hVB := hb.size
  have HX := hide (hox.mono (A' := fun k => VA.heap.size ≤ k ∧ k < VB.heap.size) (fun k hk hA => ⟨hA, hk⟩))
  have EBX := hide eBx
  obtain ⟨⟨bax, bcx, rfl, -⟩, ⟨fax, fcx, rfl, -⟩⟩ := hox
  clear hb a0 a1 eBx
  obtain ⟨VC, eVC⟩ : ∃ z, z = VB.alloc (.cells #[.slice bax Ex.length bcx, .slice fax b.2.length fcx] 27) := ⟨_, rfl⟩
  have hb := Below.alloc1 VB (.cells #[.slice bax Ex.length bcx, .slice fax b.2.length fcx] 27)
  have Hgx := hide (ownV_alloc VB #[.slice bax Ex.length bcx, .slice fax b.2.length fcx] 27)
  have hsVC : VB.heap.size < VC.heap.size := by rw [eVC, World.size_alloc]; omega
  go_upto_region 10 with (fail)
  rw [← eVC] at hb Hgx ⊢
  clear eVC
  replace HL := hide ((unhide HL).step hb)
  replace Hgw := hide ((unhide Hgw).step hb)
  replace HZ := hide (Below.step (unhide HZ) hb)
  replace HX := hide ((unhide HX).step hb)
  obtain ⟨gx, egx⟩ : ∃ z, z = VB.heap.size := ⟨_, rfl⟩
  rw [← egx] at Hgx ⊢
  have hgx1 : VB.heap.size ≤ gx := by omega
  have hgx2 : gx < VC.heap.size := by omega
  have hgx3 : gx ≤ VB.heap.size := by omega
  clear egx hb
  go_wp2_with fail
  refine (unhide HTP _ (unhide HL).below).mono ?_
  rintro e VD ⟨gq, rfl, hgq, hoq, hb⟩
  replace HL := hide ((unhide HL).step hb)
  replace Hgw := hide ((unhide Hgw).step hb)
  replace HZ := hide (Below.step (unhide HZ) hb)
  replace HX := hide ((unhide HX).step hb)
  replace Hgx := hide ((unhide Hgx).step hb)
  have hVD := hb.size
  have HQ := hide hoq
  have hgq2 := hoq.lt
  clear hb hoq
  have g0 := (unhide Hgx).cell (i := 0) rfl
  have g1 := (unhide Hgx).cell (i := 1) rfl
  go_wp2_with fail
  refine (unhide HIP _ _ _ _ (show BkIn _ _ _ b by have h9 := (unhide HX).inn; rw [unhide EBX] at h9; exact h9) (OwnV.recsIn (unhide HQ) (Nat.le_refl _) (unhide HOm))).mono ?_
  rintro e VE hA
  obtain ⟨g2, m2, cp2, f2, mf2, fcp2, E2, Dd, go, rfl, eE2, hP2, hC2, hb⟩ := hA
  unfold vBook
  dsimp only at eE2 hP2
  replace HL := hide ((unhide HL).step hb)
  replace Hgw := hide ((unhide Hgw).step hb)
  replace HZ := hide (Below.step (unhide HZ) hb)
  replace HX := hide ((unhide HX).step hb)
  replace Hgx := hide ((unhide Hgx).step hb)
  replace HQ := hide ((unhide HQ).step hb)
  have hVE := hb.size
  have HD : Hid (CS ≠ [] → VD.heap.size ≤ Dd ∧ Dd < VE.heap.size) := fun hc => ⟨(hC2 hc).2.1, (hC2 hc).2.2.lt⟩
  have HC : Hid (Cdw VE go Dd CS) := fun hc => ⟨(hC2 hc).1, (hC2 hc).2.2⟩
  have HEE := hide eE2
  have HG := hide (hP2.ownB.mono (A' := fun k => VD.heap.size ≤ k ∧ k ≠ Dd ∧ k < VE.heap.size) (fun k hk hA => ⟨hA.1, hA.2, hk⟩))
  clear hb hP2 hC2 eE2 g0 g1 HIP
  obtain ⟨VF, eVF⟩ : ∃ z, z = VE.alloc (.cells #[.slice (some ⟨g2, 0, none⟩) m2 cp2, .slice (some ⟨f2, 0, none⟩) mf2 fcp2] 27) := ⟨_, rfl⟩
  have hb := Below.alloc1 VE (.cells #[.slice (some ⟨g2, 0, none⟩) m2 cp2, .slice (some ⟨f2, 0, none⟩) mf2 fcp2] 27)
  have Hgg := hide (ownV_alloc VE #[.slice (some ⟨g2, 0, none⟩) m2 cp2, .slice (some ⟨f2, 0, none⟩) mf2 fcp2] 27)
  have hsVF : VE.heap.size < VF.heap.size := by rw [eVF, World.size_alloc]; omega
  go_upto_region 12 with (fail)
  rw [← eVF] at hb Hgg ⊢
  clear eVF
  replace HL := hide ((unhide HL).step hb)
  replace Hgw := hide ((unhide Hgw).step hb)
  replace HZ := hide (Below.step (unhide HZ) hb)
  replace HX := hide ((unhide HX).step hb)
  replace Hgx := hide ((unhide Hgx).step hb)
  replace HQ := hide ((unhide HQ).step hb)
  replace HC := hide ((unhide HC).step hb)
  replace HG := hide ((unhide HG).step hb)
  obtain ⟨gg, egg⟩ : ∃ z, z = VE.heap.size := ⟨_, rfl⟩
  rw [← egg] at Hgg ⊢
  have hgg1 : VE.heap.size ≤ gg := by omega
  have hgg2 : gg < VF.heap.size := by omega
  have hgg3 : gg ≤ VE.heap.size := by omega
  clear egg hb
  have HEQ := hide fun V h1 h2 => eqBook_any (.slice (some ⟨g2, 0, none⟩) m2 cp2) (.slice (some ⟨f2, 0, none⟩) mf2 fcp2) (.slice q1 LL.length q3) (.slice p1 FF.length p3) (LL, FF) V h1 h2
  unfold vBook at HEQ
  have HEI := hide fun V v (h1 : IntsIn V v CS) h2 => eqIntS_o v (.slice wo CS.length wcap) CS V h1 h2
  have g0 := (unhide Hgg).cell (i := 0) rfl
  have g1 := (unhide Hgg).cell (i := 1) rfl
  have u0 := (unhide Hgw).cell (i := 0) rfl
  have u1 := (unhide Hgw).cell (i := 1) rfl
  have HKWd := hide ((unhide HKW).below (unhide HZ))
  have HCWd := hide ((unhide HCW).below (unhide HZ))
  go_wp2_with fail
  refine (unhide HEQ _ (show BkIn _ _ _ (LL, FF) by have h9 := (unhide HG).inn; rw [unhide HEE] at h9; exact h9) (unhide HKWd)).mono ?_
  rintro e VG ⟨rfl, hb⟩
  replace HL := hide ((unhide HL).step hb)
  replace Hgw := hide ((unhide Hgw).step hb)
  replace HZ := hide (Below.step (unhide HZ) hb)
  replace HX := hide ((unhide HX).step hb)
  replace Hgx := hide ((unhide Hgx).step hb)
  replace HQ := hide ((unhide HQ).step hb)
  replace HC := hide ((unhide HC).step hb)
  replace HG := hide ((unhide HG).step hb)
  replace Hgg := hide ((unhide Hgg).step hb)
  replace HCWd := hide ((unhide HCWd).below hb)
  clear hb g0 g1 u0 u1 HKWd
  go_wp2_with fail
  refine (unhide HEI _ _ ((unhide HC).inn (unhide HCm)) (unhide HCWd)).mono ?_
  rintro e VH ⟨rfl, hb⟩
  replace HL := hide ((unhide HL).step hb)
  replace Hgw := hide ((unhide Hgw).step hb)
  replace HZ := hide (Below.step (unhide HZ) hb)
  replace HX := hide ((unhide HX).step hb)
  replace Hgx := hide ((unhide Hgx).step hb)
  replace HQ := hide ((unhide HQ).step hb)
  replace HC := hide ((unhide HC).step hb)
  replace HG := hide ((unhide HG).step hb)
  replace Hgg := hide ((unhide Hgg).step hb)
  clear hb HCWd
  have HXB : Hid (∀ V, Below VH.heap.size VH V → BkIn V (.slice bax Ex.length bcx) (.slice fax b.2.length fcx) b) := fun V hV => by
    have h9 := ((unhide HX).step hV).inn
    rw [unhide EBX] at h9
    exact h9
  have HEQX := hide fun V a c f d (h1 : BkIn V (.slice bax Ex.length bcx) (.slice fax b.2.length fcx) b) (h2 : BkIn V (.slice a b.1.length c) (.slice f b.2.length d) b) => eqBook_any _ _ _ _ b V h1 h2
  unfold vBook at HEQX
  have sa0 := (unhide HL).arg.cell (i := 0) rfl
  have sa1 := (unhide HL).arg.cell (i := 1) rfl
  have sg0 := (unhide Hgx).cell (i := 0) rfl
  have sg1 := (unhide Hgx).cell (i := 1) rfl
  go_upto_region 14 with (fail)
  go_cut [59] (fun s59 wx => s59 = .bool false ∧ Hid (Below VH.heap.size VH wx))
  case first =>
    go_region_held3 (fun w' => w'.cell? ⟨w.heap.size, 0, none⟩ = some (.slice ao b.1.length cap) ∧ w'.cell? ⟨w.heap.size, 1, none⟩ = some (.slice fo b.2.length fcap) ∧ w'.cell? ⟨gx, 0, none⟩ = some (.slice bax Ex.length bcx) ∧ w'.cell? ⟨gx, 1, none⟩ = some (.slice fax b.2.length fcx)) (go_keep) (first
      | (go_at_call 17; refine (unhide HTO _ (by first | exact (unhide HL).below | exact (unhide HL).below.drew)).mono ?_; rintro e wa ⟨bv1, fv1, E1, rfl, eB1, ho1, hb⟩; (first | (have HB1 : Hid (Below VH.heap.size VH wa) := hb) | (have HB1 : Hid (Below VH.heap.size VH wa) := below_undrewA hb)); have HK1 : Hid (BkIn wa bv1 fv1 b) := (by have h9 := ho1.inn; rw [eB1] at h9; exact h9); obtain ⟨⟨ba1, bc1, rfl, -⟩, ⟨fa1, fc1, rfl, -⟩⟩ := unhide HK1; have ta0 := ((unhide HL).step (unhide HB1)).arg.cell (i := 0) rfl; have ta1 := ((unhide HL).step (unhide HB1)).arg.cell (i := 1) rfl; have tg0 := ((unhide Hgx).step (unhide HB1)).cell (i := 0) rfl; have tg1 := ((unhide Hgx).step (unhide HB1)).cell (i := 1) rfl; have HE1 := hide (unhide HEQX wa _ _ _ _ (unhide HXB _ (unhide HB1)) (unhide HK1)); clear hb ho1 eB1)
      | (go_at_call 19; refine (unhide HE1).mono ?_; rintro e wb ⟨rfl, hb⟩; (first | (have HB2 : Hid (Below wa.heap.size wa wb) := hb) | (have HB2 : Hid (Below wa.heap.size wa wb) := below_undrewA hb)); have ub0 := ((unhide HL).step (Below.step (unhide HB1) (unhide HB2))).arg.cell (i := 0) rfl; have ub1 := ((unhide HL).step (Below.step (unhide HB1) (unhide HB2))).arg.cell (i := 1) rfl; have ug0 := ((unhide Hgx).step (Below.step (unhide HB1) (unhide HB2))).cell (i := 0) rfl; have ug1 := ((unhide Hgx).step (Below.step (unhide HB1) (unhide HB2))).cell (i := 1) rfl; clear hb))
    all_goals
      go_wp2_with fail
      go_meet
      exact ⟨rfl, hide (Below.step (unhide HB1) (unhide HB2))⟩
  case rest =>
    obtain ⟨rfl, HBX⟩ := hcut
    generalize wc = VI at *
    have hb := unhide HBX
    clear sa0 sa1 sg0 sg1 HXB HEQX HBX
    replace HL := hide ((unhide HL).step hb)
    replace Hgw := hide ((unhide Hgw).step hb)
    replace HZ := hide (Below.step (unhide HZ) hb)
    replace HX := hide ((unhide HX).step hb)
    replace Hgx := hide ((unhide Hgx).step hb)
    replace HQ := hide ((unhide HQ).step hb)
    replace HC := hide ((unhide HC).step hb)
    replace HG := hide ((unhide HG).step hb)
    replace Hgg := hide ((unhide Hgg).step hb)
    clear hb
    go_wp2_with fail
    refine (unhide HTP _ (unhide HL).below).mono ?_
    rintro e VJ ⟨go1, rfl, -, ho1, hb⟩
    replace HL := hide ((unhide HL).step hb)
    replace Hgw := hide ((unhide Hgw).step hb)
    replace HZ := hide (Below.step (unhide HZ) hb)
    replace HX := hide ((unhide HX).step hb)
    replace Hgx := hide ((unhide Hgx).step hb)
    replace HQ := hide ((unhide HQ).step hb)
    replace HC := hide ((unhide HC).step hb)
    replace HG := hide ((unhide HG).step hb)
    replace Hgg := hide ((unhide Hgg).step hb)
    have HR1 := hide (OwnV.recsIn ho1 (Nat.le_refl _) (unhide HOm))
    clear hb ho1
    go_wp2_with fail
    refine (eqBillOpS_any _ _ O _ (OwnV.recsIn (unhide HQ) (Nat.le_refl _) (unhide HOm)) (unhide HR1)).mono ?_
    rintro e VK ⟨rfl, hb⟩
    replace HL := hide ((unhide HL).step hb)
    replace Hgw := hide ((unhide Hgw).step hb)
    replace HZ := hide (Below.step (unhide HZ) hb)
    replace HX := hide ((unhide HX).step hb)
    replace Hgx := hide ((unhide Hgx).step hb)
    replace HQ := hide ((unhide HQ).step hb)
    replace HC := hide ((unhide HC).step hb)
    replace HG := hide ((unhide HG).step hb)
    replace Hgg := hide ((unhide Hgg).step hb)
    clear hb HR1
    have HBX1 : Hid (Bd (bills Ex, b.2)) := by have h9 := unhide HBD; show Bd _; rw [unhide EBX]; exact h9
    have HBDG : Hid (Bd (bills E2, FF)) := by have h9 := unhide HBB; show Bd _; rw [unhide HEE]; exact h9
    have HM1 := hide fun V hV => markBook_v (fun k => VA.heap.size ≤ k ∧ k < VB.heap.size) (.slice bax Ex.length bcx) (.slice fax b.2.length fcx) Ex b.2 V hV (unhide HBX1)
    have HM2 := hide fun V hV => markBook_v (fun k => VD.heap.size ≤ k ∧ k ≠ Dd ∧ k < VE.heap.size) (.slice (some ⟨g2, 0, none⟩) m2 cp2) (.slice (some ⟨f2, 0, none⟩) mf2 fcp2) E2 FF V hV (unhide HBDG)
    have HH2 := hide fun V hV => heldBook_v (.slice (some ⟨g2, 0, none⟩) m2 cp2) (.slice (some ⟨f2, 0, none⟩) mf2 fcp2) E2 FF V hV (unhide HBDG)
    unfold vBook at HM1 HM2 HH2
    have hn1 := endB (unhide HBX1)
    have hn2 := endB (unhide HBDG)
    obtain ⟨N1, eN1⟩ : ∃ z, z = endE Ex 1 + (b.2.length : Int) := ⟨_, rfl⟩
    obtain ⟨N2, eN2⟩ : ∃ z, z = endE E2 1 + (FF.length : Int) := ⟨_, rfl⟩
    rw [← eN1] at hn1 HM1
    rw [← eN2] at hn2 HM2 HH2
    clear eN1 eN2 HBX1 HBDG
    have HMO := hide fun V hV => markBillOpS_any gq O.length O.length (recCells 6 eBillOp O) N1 V hV (by rw [recCells_length]; exact Nat.le_refl _) hOl hn1.1 (Int.le_trans hn1.2 (by decide))
    have HMC := hide fun V hV => markCd go Dd CS N2 V hV hCl hn2.1 (Int.le_trans hn2.2 (by decide))
    have HHC := hide fun V hV => heldCd go Dd CS.length N2 V hV hCl hn2.1 (Int.le_trans hn2.2 (by decide))
    have hm1 : 0 ≤ N1 + 6 * (O.length : Int) := by have := hn1.1; omega
    have hm2 : 0 ≤ N2 + (CS.length : Int) := by have := hn2.1; omega
    obtain ⟨M1, eM1⟩ : ∃ z, z = N1 + 6 * (O.length : Int) := ⟨_, rfl⟩
    obtain ⟨M2, eM2⟩ : ∃ z, z = N2 + (CS.length : Int) := ⟨_, rfl⟩
    rw [← eM1] at hm1 HMO
    rw [← eM2] at hm2 HMC HHC
    have dn1 : decide (M1 < 0) = false := by simp; omega
    have dn2 : decide (N2 < 0) = false := by have := hn2.1; simp; omega
    have dn3 : decide (M2 < 0) = false := by simp; omega
    have hnn : (M2 != M2) = false := by simp
    clear eM1 eM2 hn1 hn2
    have g0 := (unhide Hgx).cell (i := 0) rfl
    have g1 := (unhide Hgx).cell (i := 1) rfl
    go_wp2_with fail
    refine (unhide HM1 _ (unhide HX)).mono ?_
    rintro e VL ⟨rfl, hk, -⟩
    have hVA := (unhide HL).lt
    replace HL := hide ((unhide HL).kept hk (fun k h => by have := h.1; omega))
    replace Hgw := hide ((unhide Hgw).kept hk (fun h => by have := h.1; omega))
    replace Hgg := hide ((unhide Hgg).kept hk (fun h => by have := h.2; omega))
    replace HQ := hide ((unhide HQ).kept hk (fun h => by have := h.2; omega))
    replace HC := hide ((unhide HC).kept hk (fun hc h => by have := (unhide HD hc).1; have := h.2; omega))
    replace HG := hide ((unhide HG).kept hk (fun k h1 h2 => by have := h1.1; have := h2.2; omega))
    replace HZ := hide ((unhide HZ).trans (hk.below (unhide HZ).size (fun k h => h.1)))
    clear hk g0 g1 HM1 hVA
    clear Hgx HX
    go_wp2_with fail
    refine (unhide HMO _ (unhide HQ)).mono ?_
    rintro e VM ⟨rfl, hk⟩
    replace HL := hide ((unhide HL).kept hk (fun k h => by have h : k = gq := h; omega))
    replace Hgw := hide ((unhide Hgw).kept hk (fun h => by have h : gw = gq := h; omega))
    replace Hgg := hide ((unhide Hgg).kept hk (fun h => by have h : gg = gq := h; omega))
    replace HC := hide ((unhide HC).kept hk (fun hc h => by have := (unhide HD hc).1; have h : Dd = gq := h; omega))
    replace HG := hide ((unhide HG).kept hk (fun k h1 h2 => by have := h1.1; have h2 : k = gq := h2; omega))
    replace HZ := hide ((unhide HZ).trans (hk.below (unhide HZ).size (fun k h => by have h : k = gq := h; omega)))
    clear hk HMO
    clear HQ
    have g0 := (unhide Hgg).cell (i := 0) rfl
    have g1 := (unhide Hgg).cell (i := 1) rfl
    have u0 := (unhide Hgw).cell (i := 0) rfl
    have u1 := (unhide Hgw).cell (i := 1) rfl
    have HKWd := hide ((unhide HKW).below (unhide HZ))
    have HCWd := hide ((unhide HCW).below (unhide HZ))
    go_wp2_with fail
    refine (unhide HEQ _ (show BkIn _ _ _ (LL, FF) by have h9 := (unhide HG).inn; rw [unhide HEE] at h9; exact h9) (unhide HKWd)).mono ?_
    rintro e VN ⟨rfl, hb⟩
    replace HL := hide ((unhide HL).step hb)
    replace Hgw := hide ((unhide Hgw).step hb)
    replace HZ := hide (Below.step (unhide HZ) hb)
    replace HC := hide ((unhide HC).step hb)
    replace HG := hide ((unhide HG).step hb)
    replace Hgg := hide ((unhide Hgg).step hb)
    replace HCWd := hide ((unhide HCWd).below hb)
    clear hb g0 g1 u0 u1 HKWd
    go_wp2_with fail
    refine (unhide HEI _ _ ((unhide HC).inn (unhide HCm)) (unhide HCWd)).mono ?_
    rintro e VO ⟨rfl, hb⟩
    replace HL := hide ((unhide HL).step hb)
    replace Hgw := hide ((unhide Hgw).step hb)
    replace HZ := hide (Below.step (unhide HZ) hb)
    replace HC := hide ((unhide HC).step hb)
    replace HG := hide ((unhide HG).step hb)
    replace Hgg := hide ((unhide Hgg).step hb)
    clear hb HCWd
    have g0 := (unhide Hgg).cell (i := 0) rfl
    have g1 := (unhide Hgg).cell (i := 1) rfl
    go_wp2_with fail
    refine (unhide HM2 _ (unhide HG)).mono ?_
    rintro e VP ⟨rfl, hk, hom⟩
    replace HL := hide ((unhide HL).kept hk (fun k h => by have := h.1; omega))
    replace Hgw := hide ((unhide Hgw).kept hk (fun h => by have := h.1; omega))
    replace Hgg := hide ((unhide Hgg).kept hk (fun h => by have := h.2.2; omega))
    replace HC := hide ((unhide HC).kept hk (fun _ h => h.2.1 rfl))
    replace HZ := hide ((unhide HZ).trans (hk.below (unhide HZ).size (fun k h => by have := h.1; omega)))
    have HGM := hide hom
    clear hk hom HM2 g0 g1
    clear HG
    go_wp2_with fail
    refine (unhide HMC _ (unhide HC)).mono ?_
    rintro e VQ ⟨rfl, hk, hom⟩
    replace HL := hide ((unhide HL).kept hk (fun k h => by have := (unhide HD h.2).1; have := h.1; omega))
    replace Hgw := hide ((unhide Hgw).kept hk (fun h => by have := (unhide HD h.2).1; have := h.1; omega))
    replace Hgg := hide ((unhide Hgg).kept hk (fun h => by have := (unhide HD h.2).2; have := h.1; omega))
    replace HGM := hide ((unhide HGM).kept hk (fun k h1 h2 => h1.2.1 h2.1))
    replace HZ := hide ((unhide HZ).trans (hk.below (unhide HZ).size (fun k h => by have := (unhide HD h.2).1; have := h.1; omega)))
    have HCM := hide hom
    clear hk hom HMC
    clear HC
    have g0 := (unhide Hgg).cell (i := 0) rfl
    have g1 := (unhide Hgg).cell (i := 1) rfl
    go_wp2_with fail
    refine (unhide HH2 _ (unhide HGM).inn).mono ?_
    rintro e VR ⟨rfl, hb⟩
    replace HL := hide ((unhide HL).step hb)
    replace Hgw := hide ((unhide Hgw).step hb)
    replace HZ := hide (Below.step (unhide HZ) hb)
    replace Hgg := hide ((unhide Hgg).step hb)
    replace HGM := hide ((unhide HGM).step hb)
    replace HCM := hide ((unhide HCM).step hb)
    clear hb g0 g1
    go_wp2_with fail
    refine (unhide HHC _ (unhide HCM)).mono ?_
    rintro e VS ⟨rfl, hb⟩
    replace HL := hide ((unhide HL).step hb)
    replace Hgw := hide ((unhide Hgw).step hb)
    replace HZ := hide (Below.step (unhide HZ) hb)
    replace Hgg := hide ((unhide Hgg).step hb)
    replace HGM := hide ((unhide HGM).step hb)
    replace HCM := hide ((unhide HCM).step hb)
    clear hb
    have a0 := (unhide HL).arg.cell (i := 0) rfl
    have a1 := (unhide HL).arg.cell (i := 1) rfl
    go_wp2_with fail
    refine (unhide HTO _ (unhide HL).below).mono ?_
    rintro e y1 ⟨bv1, fv1, E1, rfl, eB1, ho1, hb⟩
    replace HL := hide ((unhide HL).step hb)
    replace Hgw := hide ((unhide Hgw).step hb)
    replace HZ := hide (Below.step (unhide HZ) hb)
    replace Hgg := hide ((unhide Hgg).step hb)
    replace HGM := hide ((unhide HGM).step hb)
    replace HCM := hide ((unhide HCM).step hb)
    have HK1 : Hid (BkIn y1 bv1 fv1 b) := (by have h9 := ho1.inn; rw [eB1] at h9; exact h9)
    obtain ⟨⟨ba1, bc1, rfl, -⟩, ⟨fa1, fc1, rfl, -⟩⟩ := unhide HK1
    clear hb ho1 eB1 a0 a1
    go_wp2_with fail
    refine (unhide HTP _ (unhide HL).below).mono ?_
    rintro e y2 ⟨go1, rfl, -, ho1, hb⟩
    replace HL := hide ((unhide HL).step hb)
    replace Hgw := hide ((unhide Hgw).step hb)
    replace HZ := hide (Below.step (unhide HZ) hb)
    replace Hgg := hide ((unhide Hgg).step hb)
    replace HGM := hide ((unhide HGM).step hb)
    replace HCM := hide ((unhide HCM).step hb)
    replace HK1 := hide ((unhide HK1).below hb)
    have HR1 := hide (OwnV.recsIn ho1 (Nat.le_refl _) (unhide HOm))
    clear hb ho1
    go_wp2_with fail
    refine (unhide HIB _ _ _ _ (unhide HK1) (unhide HR1)).mono ?_
    rintro e y3 hA
    obtain ⟨bw, fw, ho9, wm, hcap, rfl, hin, hb⟩ := hA
    obtain ⟨hin0, hci⟩ := hin y3 (Kept.refl _ _)
    have hin1 := hin0
    obtain ⟨⟨s1, s3, rfl, -⟩, ⟨t1, t3, rfl, -⟩⟩ := hin1
    obtain rfl : wm = CS.length := by obtain ⟨_, _, e, -⟩ := hci; simp only [Value.slice.injEq] at e; exact e.2.1
    unfold vBook
    dsimp only at hin0 ⊢
    replace HL := hide ((unhide HL).step hb)
    replace Hgw := hide ((unhide Hgw).step hb)
    replace HZ := hide (Below.step (unhide HZ) hb)
    replace Hgg := hide ((unhide Hgg).step hb)
    replace HGM := hide ((unhide HGM).step hb)
    replace HCM := hide ((unhide HCM).step hb)
    clear hb hin HK1 HR1
    have HKH := hide hin0
    have HCH := hide hci
    clear hin0 hci HIB
    obtain ⟨VT, eVT⟩ : ∃ z, z = y3.alloc (.cells #[.slice s1 LL.length s3, .slice t1 FF.length t3] 27) := ⟨_, rfl⟩
    have hb := Below.alloc1 y3 (.cells #[.slice s1 LL.length s3, .slice t1 FF.length t3] 27)
    have Hgh := hide (ownV_alloc y3 #[.slice s1 LL.length s3, .slice t1 FF.length t3] 27)
    have hsVT : y3.heap.size < VT.heap.size := by rw [eVT, World.size_alloc]; omega
    go_upto_region 36 with (fail)
    rw [← eVT] at hb Hgh ⊢
    clear eVT
    replace HL := hide ((unhide HL).step hb)
    replace Hgw := hide ((unhide Hgw).step hb)
    replace HZ := hide (Below.step (unhide HZ) hb)
    replace Hgg := hide ((unhide Hgg).step hb)
    replace HGM := hide ((unhide HGM).step hb)
    replace HCM := hide ((unhide HCM).step hb)
    replace HKH := hide ((unhide HKH).below hb)
    replace HCH := hide ((unhide HCH).below hb)
    obtain ⟨gh, egh⟩ : ∃ z, z = y3.heap.size := ⟨_, rfl⟩
    rw [← egh] at Hgh ⊢
    have hgh1 : y3.heap.size ≤ gh := by omega
    have hgh2 : gh < VT.heap.size := by omega
    have hgh3 : gh ≤ y3.heap.size := by omega
    clear egh hb
    have HEQ2 := hide fun V h1 h2 => eqBook_any (.slice s1 LL.length s3) (.slice t1 FF.length t3) (.slice q1 LL.length q3) (.slice p1 FF.length p3) (LL, FF) V h1 h2
    unfold vBook at HEQ2
    have g0 := (unhide Hgh).cell (i := 0) rfl
    have g1 := (unhide Hgh).cell (i := 1) rfl
    have u0 := (unhide Hgw).cell (i := 0) rfl
    have u1 := (unhide Hgw).cell (i := 1) rfl
    have HKWd := hide ((unhide HKW).below (unhide HZ))
    have HCWd := hide ((unhide HCW).below (unhide HZ))
    go_wp2_with fail
    refine (unhide HEQ2 _ (unhide HKH) (unhide HKWd)).mono ?_
    rintro e VU ⟨rfl, hb⟩
    replace HL := hide ((unhide HL).step hb)
    replace Hgw := hide ((unhide Hgw).step hb)
    replace HZ := hide (Below.step (unhide HZ) hb)
    replace Hgg := hide ((unhide Hgg).step hb)
    replace HGM := hide ((unhide HGM).step hb)
    replace HCM := hide ((unhide HCM).step hb)
    replace HKH := hide ((unhide HKH).below hb)
    replace HCH := hide ((unhide HCH).below hb)
    replace Hgh := hide ((unhide Hgh).step hb)
    replace HCWd := hide ((unhide HCWd).below hb)
    clear hb g0 g1 u0 u1 HKWd
    go_wp2_with fail
    refine (unhide HEI _ _ (unhide HCH) (unhide HCWd)).mono ?_
    rintro e VV ⟨rfl, hb⟩
    replace HL := hide ((unhide HL).step hb)
    replace Hgw := hide ((unhide Hgw).step hb)
    replace HZ := hide (Below.step (unhide HZ) hb)
    replace Hgg := hide ((unhide Hgg).step hb)
    replace HGM := hide ((unhide HGM).step hb)
    replace HCM := hide ((unhide HCM).step hb)
    replace HKH := hide ((unhide HKH).below hb)
    replace HCH := hide ((unhide HCH).below hb)
    replace Hgh := hide ((unhide Hgh).step hb)
    clear hb HCWd
    have g0 := (unhide Hgg).cell (i := 0) rfl
    have g1 := (unhide Hgg).cell (i := 1) rfl
    go_wp2_with fail
    refine (unhide HH2 _ (unhide HGM).inn).mono ?_
    rintro e VW ⟨rfl, hb⟩
    replace HL := hide ((unhide HL).step hb)
    replace Hgw := hide ((unhide Hgw).step hb)
    replace HZ := hide (Below.step (unhide HZ) hb)
    replace Hgg := hide ((unhide Hgg).step hb)
    replace HGM := hide ((unhide HGM).step hb)
    replace HCM := hide ((unhide HCM).step hb)
    replace HKH := hide ((unhide HKH).below hb)
    replace HCH := hide ((unhide HCH).below hb)
    replace Hgh := hide ((unhide Hgh).step hb)
    clear hb g0 g1
    go_wp2_with fail
    refine (unhide HHC _ (unhide HCM)).mono ?_
    rintro e VX ⟨rfl, hb⟩
    replace HL := hide ((unhide HL).step hb)
    replace Hgw := hide ((unhide Hgw).step hb)
    replace HZ := hide (Below.step (unhide HZ) hb)
    replace Hgg := hide ((unhide Hgg).step hb)
    replace HGM := hide ((unhide HGM).step hb)
    replace HCM := hide ((unhide HCM).step hb)
    replace HKH := hide ((unhide HKH).below hb)
    replace HCH := hide ((unhide HCH).below hb)
    replace Hgh := hide ((unhide Hgh).step hb)
    clear hb
    have HW := hide (unhide HL).below
    go_wp2
    go_ret
    exact ⟨rfl, unhide HW⟩

end

section
open Go.ChangeShapes Go.WideShapes Go.ChangeAt Go.RowKit Go.Deep

theorem Try.ownM : ownKnob Try.prog.godebug = none := by kernel_rfl
theorem Try.laidOutM : laidOutB Try.prog = true := by kernel_rfl
theorem Try.cellIntM : Try.prog.cellsOf 3 = 1 := by kernel_rfl
theorem Try.cellStrM : Try.prog.cellsOf 9 = 1 := by kernel_rfl
theorem Try.cellBoolM : Try.prog.cellsOf 4 = 1 := by kernel_rfl
theorem choose_lt {α : Type} [Inhabited α] {n : Nat} {p : Nat → α → Prop} (h : ∀ i, i < n → ∃ q, p i q) : ∃ f : Nat → α, ∀ i, i < n → p i (f i) :=
  ⟨fun i => if hi : i < n then Classical.choose (h i hi) else default, fun i hi => by simp only [dif_pos hi]; exact Classical.choose_spec (h i hi)⟩
set_option maxRecDepth 100000 in
theorem open_str {H : Type} {enc : TypeId × Value → H} {W : World} {base : Nat} {v0 : Value} {d0 : DataW H} {p0 : List MemPlace} (hv : Value.okWide Try.prog W .any base 9 v0)
    (h0 : DataW.Trod enc Try.prog W 0 (fun _ => true) true 9 v0 d0 p0) : ∃ s, v0 = .string s ∧ s.size ≤ maxLen := by
  obtain ⟨s0, rfl⟩ := okWide_string Try.underlying9 hv
  obtain ⟨fuel, hf⟩ := h0
  obtain ⟨s, e, _, sz⟩ := DataW.trod_string Try.underlying9 hf
  have e' : [Value.string s0] = [Value.string s] := e
  simp only [List.cons.injEq, and_true] at e'
  exact ⟨s, e', sz⟩

set_option maxRecDepth 100000 in
theorem flatBillOp_open {H : Type} {enc : TypeId × Value → H} {W : World} {base : Nat} {v : Value} {d : DataW H} {p : List MemPlace} {f0 f1 f2 f3 f4 f5 : Field} (hs : Try.prog.underlying 48 = some (.struct #[f0, f1, f2, f3, f4, f5]))
    (ho : [f0.offset, f1.offset, f2.offset, f3.offset, f4.offset, f5.offset] = [0, 1, 2, 3, 4, 5]) (hy : [f0.type, f1.type, f2.type, f3.type, f4.type, f5.type] = [3, 3, 9, 9, 3, 3]) (hC : Try.prog.cellsOf 48 = 6)
    (hv : Value.okWide Try.prog W .any base 48 v) (h : DataW.Trod enc Try.prog W 0 (fun _ => true) true 48 v d p) : ∃ (x0 : Int) (x1 : Int) (x2 : ByteArray) (x3 : ByteArray) (x4 : Int) (x5 : Int), v = vBillOp x0 x1 x2 x3 x4 x5 ∧ x2.size ≤ maxLen ∧ x3.size ≤ maxLen := by
  simp only [List.cons.injEq, and_true] at ho hy
  obtain ⟨o0, o1, o2, o3, o4, o5⟩ := ho
  obtain ⟨u0, u1, u2, u3, u4, u5⟩ := hy
  obtain ⟨⟨l⟩, rfl, hsz⟩ := okWide_struct hs hv
  rw [hC] at hsz
  obtain ⟨fuel, hf⟩ := h
  obtain ⟨xs, n, _, _, _, hlen, hx⟩ := DataW.trod_struct hs hf
  match l, hsz, xs, hlen with
  | [v0, v1, v2, v3, v4, v5], _, [y0, y1, y2, y3, y4, y5], _ =>
    have g0 := hx 0 f0 rfl
    have g1 := hx 1 f1 rfl
    have g2 := hx 2 f2 rfl
    have g3 := hx 3 f3 rfl
    have g4 := hx 4 f4 rfl
    have g5 := hx 5 f5 rfl
    simp [Value.cells, o0, o1, o2, o3, o4, o5, u0, u1, u2, u3, u4, u5, Try.cellIntM, Try.cellStrM] at g0 g1 g2 g3 g4 g5
    obtain ⟨z0, e0, _, _⟩ := DataW.trod_int Try.underlying3 g0
    obtain ⟨z1, e1, _, _⟩ := DataW.trod_int Try.underlying3 g1
    obtain ⟨z2, e2, _, s2⟩ := DataW.trod_string Try.underlying9 g2
    obtain ⟨z3, e3, _, s3⟩ := DataW.trod_string Try.underlying9 g3
    obtain ⟨z4, e4, _, _⟩ := DataW.trod_int Try.underlying3 g4
    obtain ⟨z5, e5, _, _⟩ := DataW.trod_int Try.underlying3 g5
    simp only [List.cons.injEq, and_true] at e0 e1 e2 e3 e4 e5
    subst e0 e1 e2 e3 e4 e5
    exact ⟨z0, z1, z2, z3, z4, z5, rfl, s2, s3⟩

set_option maxRecDepth 100000 in
theorem open_BillOp1 {H : Type} {enc : TypeId × Value → H} {W : World} {base : Nat} {v0 : Value} {d0 : DataW H} {p0 : List MemPlace} (hv : Value.okWide Try.prog W .any base 48 v0)
    (h0 : DataW.Trod enc Try.prog W 0 (fun _ => true) true 48 v0 d0 p0) : ∃ (x0 : Int) (x1 : Int) (x2 : ByteArray) (x3 : ByteArray) (x4 : Int) (x5 : Int), v0 = vBillOp x0 x1 x2 x3 x4 x5 ∧ x2.size ≤ maxLen ∧ x3.size ≤ maxLen :=
  flatBillOp_open Try.underlying48 rfl rfl (by kernel_rfl) hv h0

set_option maxRecDepth 100000 in
theorem recsBillOp_open {H : Type} {enc : TypeId × Value → H} {W : World} {v : Value} {fuel : Nat} {x : DataW H × List MemPlace} {f0 f1 f2 f3 f4 f5 : Field} (ht : Try.prog.underlying 56 = some (.slice 48)) (he : Try.prog.underlying 48 = some (.struct #[f0, f1, f2, f3, f4, f5])) (ce : Try.prog.cellsOf 48 = 6)
    (ho : [f0.offset, f1.offset, f2.offset, f3.offset, f4.offset, f5.offset] = [0, 1, 2, 3, 4, 5]) (hty : [f0.type, f1.type, f2.type, f3.type, f4.type, f5.type] = [3, 3, 9, 9, 3, 3])
    (h : DataW.trod enc Try.prog W 0 (fun _ => true) true fuel 56 [v] = some x) : ∃ L, RBillOp W v L ∧ ∀ i, i < L.length → txtBillOp (L.getD i default) maxLen := by
  simp only [List.cons.injEq, and_true] at ho hty
  obtain ⟨o0, o1, o2, o3, o4, o5⟩ := ho
  obtain ⟨u0, u1, u2, u3, u4, u5⟩ := hty
  rcases open_slice ht h with ⟨hcs, _⟩ | ⟨a, len, cap, m, n, D, Pl, hcs, _, hl, hm, hmm, _, hx⟩
  · simp only [List.cons.injEq, and_true] at hcs
    subst hcs
    exact ⟨[], recsIn_nil, fun i hi => by simp at hi⟩
  simp only [List.cons.injEq, and_true] at hcs
  subst hcs
  simp only [if_true] at hmm
  subst hmm
  have each : ∀ i, i < len → ∃ q : BillOpT, (∀ j, j < 6 → W.cell? (a.add (i * 6 + j)) = some (eBillOp q j)) ∧ txtBillOp q maxLen := by
    intro i hin
    obtain ⟨cs', h1, h2⟩ := hx i (by omega)
    rw [ce] at h1
    obtain ⟨_, hlen, hcell⟩ := World.cells?_some h1
    obtain ⟨xs, k, hk, hxy, _, hxl, hf⟩ := DataW.trod_struct he h2
    match xs, hxl, cs', hlen with
    | [y0, y1, y2, y3, y4, y5], _, [v0, v1, v2, v3, v4, v5], _ =>
      have g0 := hf 0 f0 rfl
      have g1 := hf 1 f1 rfl
      have g2 := hf 2 f2 rfl
      have g3 := hf 3 f3 rfl
      have g4 := hf 4 f4 rfl
      have g5 := hf 5 f5 rfl
      simp [o0, o1, o2, o3, o4, o5, u0, u1, u2, u3, u4, u5, Try.cellIntM, Try.cellStrM] at g0 g1 g2 g3 g4 g5
      obtain ⟨z0, e0, _, _⟩ := DataW.trod_int Try.underlying3 g0
      obtain ⟨z1, e1, _, _⟩ := DataW.trod_int Try.underlying3 g1
      obtain ⟨z2, e2, _, sz2⟩ := DataW.trod_string Try.underlying9 g2
      obtain ⟨z3, e3, _, sz3⟩ := DataW.trod_string Try.underlying9 g3
      obtain ⟨z4, e4, _, _⟩ := DataW.trod_int Try.underlying3 g4
      obtain ⟨z5, e5, _, _⟩ := DataW.trod_int Try.underlying3 g5
      simp only [List.cons.injEq, and_true] at e0 e1 e2 e3 e4 e5
      have d0 := hcell 0 (by omega)
      rw [add_add] at d0
      subst e0
      have d1 := hcell 1 (by omega)
      rw [add_add] at d1
      subst e1
      have d2 := hcell 2 (by omega)
      rw [add_add] at d2
      subst e2
      have d3 := hcell 3 (by omega)
      rw [add_add] at d3
      subst e3
      have d4 := hcell 4 (by omega)
      rw [add_add] at d4
      subst e4
      have d5 := hcell 5 (by omega)
      rw [add_add] at d5
      subst e5
      refine ⟨(z0, z1, z2, z3, z4, z5), fun j hj => ?_, ⟨sz2, sz3⟩⟩
      match j, hj with
      | 0, _ => simpa [eBillOp] using d0
      | 1, _ => simpa [eBillOp] using d1
      | 2, _ => simpa [eBillOp] using d2
      | 3, _ => simpa [eBillOp] using d3
      | 4, _ => simpa [eBillOp] using d4
      | 5, _ => simpa [eBillOp] using d5
  obtain ⟨q, hq⟩ := choose_lt each
  refine ⟨(List.range len).map q, ⟨some a, _, by simp, by simpa using hl, hm, fun i hi => ?_⟩, fun i hi => ?_⟩
  · simp only [List.length_map, List.length_range] at hi
    obtain ⟨b, o, sp⟩ := a
    have hs : sp = none := by simpa [Addr.add] using World.cell?_spot ((hq 0 (by omega)).1 0 (by omega))
    subst hs
    refine ⟨b, o, rfl, fun j hj => ?_⟩
    rw [← add_plain, (hq i hi).1 j hj]
    simp [List.getD, hi]
  · simp only [List.length_map, List.length_range] at hi
    have e : ((List.range len).map q).getD i default = q i := by simp [List.getD, hi]
    rw [e]
    exact (hq i hi).2

set_option maxRecDepth 100000 in
theorem open_BillOpS {H : Type} {enc : TypeId × Value → H} {W : World} {base : Nat} {v0 : Value} {d0 : DataW H} {p0 : List MemPlace} (hv : Value.okWide Try.prog W .any base 56 v0)
    (h0 : DataW.Trod enc Try.prog W 0 (fun _ => true) true 56 v0 d0 p0) : ∃ L, RBillOp W v0 L ∧ ∀ i, i < L.length → txtBillOp (L.getD i default) maxLen := by
  obtain ⟨a0, len0, cap0, rfl⟩ := okWide_slice Try.underlying56 hv
  obtain ⟨fuel, hf⟩ := h0
  exact recsBillOp_open Try.underlying56 Try.underlying48 (by kernel_rfl) rfl rfl hf

theorem intsS_open {H : Type} {enc : TypeId × Value → H} {W : World} {v : Value} {fuel : Nat} {x : DataW H × List MemPlace} {P : Program} {t ti : TypeId} (hi : P.underlying ti = some (.int .i64)) (ci : P.cellsOf ti = 1)
    (ht : P.underlying t = some (.slice ti)) (h : DataW.trod enc P W 0 (fun _ => true) true fuel t [v] = some x) : ∃ L, IntsIn W v L ∧ ∀ i, i < L.length → -9223372036854775808 ≤ L.getD i 0 ∧ L.getD i 0 ≤ 9223372036854775807 := by
  rcases open_ints ht hi ci h with ⟨hcs, _⟩ | ⟨a, len, cap, zs, hcs, _, hl, hm, hz, _, hcell, hwf⟩
  · simp only [List.cons.injEq, and_true] at hcs
    subst hcs
    exact ⟨[], ⟨none, 0, rfl, Nat.le_refl _, Nat.zero_le _, fun i hi => by simp at hi⟩, fun i hi => by simp at hi⟩
  · simp only [List.cons.injEq, and_true] at hcs
    subst hcs
    simp only [if_true] at hz
    have hl' : (zs.take len).length = len := by rw [List.length_take]; omega
    have hg : ∀ i, i < len → (zs.take len).getD i 0 = zs.getD i 0 := fun i hi => by simp [List.getD, hi]
    refine ⟨zs.take len, ⟨some a, cap, by rw [hl'], by rw [hl']; exact hl, hm, fun i hi => ?_⟩, fun i hi => ?_⟩
    · rw [hl'] at hi
      obtain ⟨b, o, sp⟩ := a
      have hs : sp = none := by simpa [Addr.add] using World.cell?_spot (hcell 0 (by omega))
      subst hs
      refine ⟨b, o, rfl, ?_⟩
      rw [← add_plain, hcell i (by omega), hg i hi]
    · rw [hl'] at hi
      rw [hg i hi]
      have hm' : zs.getD i 0 ∈ zs := by rw [getD_lt (show i < zs.length by omega)]; exact List.getElem_mem _
      have := hwf _ hm'
      clear hg hwf hcell hm'
      generalize zs.getD i 0 = y at *
      simp [Lit.wf, IntKind.min, IntKind.max, IntKind.bits, IntKind.signed] at this
      omega

set_option maxRecDepth 100000 in
theorem strs_open {H : Type} {enc : TypeId × Value → H} {W : World} {v : Value} {fuel : Nat} {x : DataW H × List MemPlace} (h : DataW.trod enc Try.prog W 0 (fun _ => true) true fuel 38 [v] = some x) : ∃ L, SIn W v L ∧ ∀ i, i < L.length → (L.getD i default).size ≤ maxLen := by
  rcases open_slice Try.underlying38 h with ⟨hcs, _⟩ | ⟨a, len, cap, m, n, D, Pl, hcs, _, hl, hm, hmm, _, hx⟩
  · simp only [List.cons.injEq, and_true] at hcs
    subst hcs
    exact ⟨[], cIn_nil, fun i hi => by simp at hi⟩
  simp only [List.cons.injEq, and_true] at hcs
  subst hcs
  simp only [if_true] at hmm
  subst hmm
  have each : ∀ i, i < len → ∃ q : ByteArray, W.cell? (a.add i) = some (.string q) ∧ q.size ≤ maxLen := by
    intro i hin
    obtain ⟨cs', h1, h2⟩ := hx i (by omega)
    rw [Try.cellStrM] at h1
    obtain ⟨_, hlen, hcell⟩ := World.cells?_some h1
    match cs', hlen with
    | [v0], _ =>
      obtain ⟨z, e, _, sz⟩ := DataW.trod_string Try.underlying9 h2
      simp only [List.cons.injEq, and_true] at e
      have d := hcell 0 (by omega)
      rw [add_add] at d
      subst e
      exact ⟨z, by simpa using d, sz⟩
  obtain ⟨q, hq⟩ := choose_lt each
  have eq : ∀ i, i < len → ((List.range len).map q).getD i default = q i := fun i hi => by simp [List.getD, hi]
  refine ⟨(List.range len).map q, ⟨some a, _, by simp, by simpa using hl, hm, fun i hi => ?_⟩, fun i hi => ?_⟩
  · simp only [List.length_map, List.length_range] at hi
    obtain ⟨b, o, sp⟩ := a
    have hs : sp = none := by simpa [Addr.add] using World.cell?_spot (hq 0 (by omega)).1
    subst hs
    rw [eq i hi]
    have c := (hq i hi).1
    rw [add_plain] at c
    exact ⟨b, o, rfl, c⟩
  · simp only [List.length_map, List.length_range] at hi
    rw [eq i hi]
    exact (hq i hi).2

set_option maxRecDepth 100000 in
theorem bills_open {H : Type} {enc : TypeId × Value → H} {W : World} {v : Value} {fuel : Nat} {x : DataW H × List MemPlace} (h : DataW.trod enc Try.prog W 0 (fun _ => true) true fuel 45 [v] = some x) : ∃ L, BlsIn W v L ∧ ∀ i, i < L.length → TxB (L.getD i default) := by
  have ce : Try.prog.cellsOf 111 = 5 := by kernel_rfl
  have cn : Try.prog.cellsOf 38 = 1 := by kernel_rfl
  rcases open_slice Try.underlying45 h with ⟨hcs, _⟩ | ⟨a, len, cap, m, n, D, Pl, hcs, _, hl, hm, hmm, _, hx⟩
  · simp only [List.cons.injEq, and_true] at hcs
    subst hcs
    exact ⟨[], blsIn_nil, fun i hi => by simp at hi⟩
  simp only [List.cons.injEq, and_true] at hcs
  subst hcs
  simp only [if_true] at hmm
  subst hmm
  have each : ∀ i, i < len → ∃ q : BlT, (W.cell? (a.add (i * 5)) = some (.int .i64 q.1) ∧ W.cell? (a.add (i * 5 + 1)) = some (.string q.2.1) ∧ W.cell? (a.add (i * 5 + 2)) = some (.string q.2.2.1) ∧ W.cell? (a.add (i * 5 + 3)) = some (.int .i64 q.2.2.2.1) ∧ ∃ na nc, W.cell? (a.add (i * 5 + 4)) = some (.slice na q.2.2.2.2.length nc) ∧ SIn W (.slice na q.2.2.2.2.length nc) q.2.2.2.2) ∧ TxB q := by
    intro i hin
    obtain ⟨cs', h1, h2⟩ := hx i (by omega)
    rw [ce] at h1
    obtain ⟨_, hlen, hcell⟩ := World.cells?_some h1
    obtain ⟨xs, k, hk, hxy, _, hxl, hf⟩ := DataW.trod_struct Try.underlying111 h2
    match xs, hxl, cs', hlen with
    | [y0, y1, y2, y3, y4], _, [v0, v1, v2, v3, v4], _ =>
      have g0 := hf 0 _ rfl
      have g1 := hf 1 _ rfl
      have g2 := hf 2 _ rfl
      have g3 := hf 3 _ rfl
      have g4 := hf 4 _ rfl
      simp [Try.cellIntM, Try.cellStrM, cn] at g0 g1 g2 g3 g4
      obtain ⟨z0, e0, _, _⟩ := DataW.trod_int Try.underlying3 g0
      obtain ⟨z1, e1, _, s1⟩ := DataW.trod_string Try.underlying9 g1
      obtain ⟨z2, e2, _, s2⟩ := DataW.trod_string Try.underlying9 g2
      obtain ⟨z3, e3, _, _⟩ := DataW.trod_int Try.underlying3 g3
      obtain ⟨M, hM, hT⟩ := strs_open g4
      simp only [List.cons.injEq, and_true] at e0 e1 e2 e3
      have d0 := hcell 0 (by omega)
      have d1 := hcell 1 (by omega)
      have d2 := hcell 2 (by omega)
      have d3 := hcell 3 (by omega)
      have d4 := hcell 4 (by omega)
      rw [add_add] at d0 d1 d2 d3 d4
      subst e0 e1 e2 e3
      obtain ⟨na, nc, eN, _⟩ := _root_.id hM
      subst eN
      exact ⟨(_, _, _, _, M), ⟨by simpa using d0, by simpa using d1, by simpa using d2, by simpa using d3, na, nc, by simpa using d4, hM⟩, s1, s2, hT⟩
  obtain ⟨q, hq⟩ := choose_lt each
  have eq : ∀ i, i < len → ((List.range len).map q).getD i default = q i := fun i hi => by simp [List.getD, hi]
  refine ⟨(List.range len).map q, ⟨some a, _, by simp, by simpa using hl, hm, fun i hi => ?_⟩, fun i hi => ?_⟩
  · simp only [List.length_map, List.length_range] at hi
    obtain ⟨b, o, sp⟩ := a
    have hs : sp = none := by simpa [Addr.add] using World.cell?_spot (hq 0 (by omega)).1.1
    subst hs
    rw [eq i hi]
    obtain ⟨⟨c0, c1, c2, c3, na, nc, c4, hU⟩, _⟩ := hq i hi
    rw [add_plain] at c0 c1 c2 c3 c4
    exact ⟨b, o, na, nc, rfl, c0, by rw [Nat.add_assoc]; exact c1, by rw [Nat.add_assoc]; exact c2, by rw [Nat.add_assoc]; exact c3, by rw [Nat.add_assoc]; exact c4, hU⟩
  · simp only [List.length_map, List.length_range] at hi
    rw [eq i hi]
    exact (hq i hi).2

theorem two_open {H : Type} {enc : TypeId × Value → H} {W : World} {base : Nat} {P : Program} {t : TypeId} {f0 f1 : Field} {v : Value} {d : DataW H} {p : List MemPlace} (hs : P.underlying t = some (.struct #[f0, f1]))
    (ho : [f0.offset, f1.offset] = [0, 1]) (hc : [P.cellsOf f0.type, P.cellsOf f1.type] = [1, 1]) (hC : P.cellsOf t = 2)
    (hv : Value.okWide P W .any base t v) (h : DataW.Trod enc P W 0 (fun _ => true) true t v d p) :
    ∃ (v0 v1 : Value) (y0 y1 : DataW H × List MemPlace) (n : Nat), v = .agg #[v0, v1] ∧ DataW.trod enc P W 0 (fun _ => true) true n f0.type [v0] = some y0 ∧ DataW.trod enc P W 0 (fun _ => true) true n f1.type [v1] = some y1 := by
  simp only [List.cons.injEq, and_true] at ho hc
  obtain ⟨o0, o1⟩ := ho
  obtain ⟨c0, c1⟩ := hc
  obtain ⟨⟨l⟩, rfl, hsz⟩ := okWide_struct hs hv
  rw [hC] at hsz
  obtain ⟨fuel, hf⟩ := h
  obtain ⟨xs, n, _, _, _, hlen, hx⟩ := DataW.trod_struct hs hf
  match l, hsz, xs, hlen with
  | [v0, v1], _, [y0, y1], _ =>
    have g0 := hx 0 f0 rfl
    have g1 := hx 1 f1 rfl
    simp [Value.cells, o0, o1, c0, c1] at g0 g1
    exact ⟨v0, v1, y0, y1, n, rfl, g0, g1⟩

set_option maxRecDepth 100000 in
theorem open_book {H : Type} {enc : TypeId × Value → H} {W : World} {base : Nat} {v0 : Value} {d0 : DataW H} {p0 : List MemPlace} (hv : Value.okWide Try.prog W .any base 47 v0)
    (h0 : DataW.Trod enc Try.prog W 0 (fun _ => true) true 47 v0 d0 p0) : ∃ bv fv b, v0 = vBook bv fv ∧ BkIn W bv fv b ∧ ∀ x ∈ b.1, TxB x := by
  obtain ⟨c0, c1, y0, y1, n, rfl, t0, t1⟩ := two_open Try.underlying47 (by kernel_rfl) (by kernel_rfl) (by kernel_rfl) hv h0
  obtain ⟨L, hL, hT⟩ := bills_open t0
  obtain ⟨F, hF, -⟩ := intsS_open Try.underlying3 Try.cellIntM Try.underlying25 t1
  exact ⟨c0, c1, (L, F), rfl, ⟨hL, hF⟩, fun x hx => by
    obtain ⟨i, hi, rfl⟩ := List.mem_iff_getElem.1 hx
    have := hT i hi
    rwa [getD_lt hi] at this⟩

end

section
open Go.ChangeShapes Go.WideShapes Go.ChangeAt Go.RowKit Go.Deep

set_option maxRecDepth 100000 in
theorem exactRunBills_lifted (os : Os) (started : os.Started) (H : Type) (enc : TypeId × Value → H) :
    ReturnsInHanded {} Try.checked os 5 .any (Rows.fnExactRunBillsSpec.pre6 enc Try.prog Try.f5 Rows.fnExactRunBillsRow.domain false) (Rows.fnExactRunBillsSpec.post enc Try.prog Try.f5 false true false false) := by
  refine returnsInHanded_of_change (C := Try.checked) Try.ownM started (by kernel_rfl) Try.func5
    (ChangeSpec.witness6 (enc := enc) (C := Try.checked) false ⟨#[], #[.agg #[.slice none 0 0, .slice none 0 0], .slice none 0 0], []⟩ 8 (by kernel_rfl) (by kernel_rfl) (by kernel_rfl) (by kernel_rfl)) ?_
  intro W base args ds gs before hval0 hW _ _
  have hval : ∀ (j : Nat) t v, Try.f5.params[j]? = some t → args[j]? = some v → Value.okWide Try.prog W .any base t v := hval0
  have hW' := hW
  obtain ⟨p, q, hA0, hV, rfl, _, _⟩ := hW
  have hA : DataW.TrodAll enc Try.prog W 0 (fun _ => true) true Try.f5.params.toList args.toList ds p := hA0
  rw [Try.params5] at hA hval
  obtain ⟨al⟩ := args
  obtain ⟨v0, vs0, d0, ds0, p0, q0, ha, rfl, rfl, h0, r0⟩ := trodAll_cons hA
  obtain ⟨v1, vs1, d1, ds1, p1, q1, rfl, rfl, rfl, h1, r1⟩ := trodAll_cons r0
  obtain ⟨rfl, rfl, rfl⟩ := trodAll_nil r1
  dsimp only at ha
  subst ha
  obtain ⟨rfl, rfl⟩ := trodVars_none hV
  have k0 := h0
  have lt0 : ∀ x ∈ p0, x.block < W.heap.size := by obtain ⟨m, hm⟩ := k0; exact DataW.trod_lt m _ _ _ hm
  have k1 := h1
  have lt1 : ∀ x ∈ p1, x.block < W.heap.size := by obtain ⟨m, hm⟩ := k1; exact DataW.trod_lt m _ _ _ hm
  obtain ⟨x0_0, x0_1, b0, rfl, H0, T0⟩ := open_book (hval 0 47 v0 rfl rfl) h0
  obtain ⟨L1, H1, T1⟩ := open_BillOpS (hval 1 56 v1 rfl rfl) h1
  clear hA0 hval0
  refine (lawRunBills_any x0_0 x0_1 b0 _ L1 W H0 T0 H1 T1).mono fun e W' ⟨he, bel⟩ => ?_
  subst he
  exact ⟨_, rfl, _, _, _, [], _, [], hW', trodAll_mk1 (shut_bool Try.underlying4 _), (trodAll_cons_mk (Below.trod Try.laidOutM (by kernel_rfl) (of_decide_eq_true (by kernel_rfl)) k0 bel lt0) (trodAll_cons_mk (Below.trod Try.laidOutM (by kernel_rfl) (of_decide_eq_true (by kernel_rfl)) k1 bel lt1) (trodAll_mk0))), rfl, bel.frame _, fun h => by cases h⟩

set_option maxRecDepth 100000 in
theorem exactRunBills_holds : Rows.FnExactRunBillsSaid :=
  OpenClaim.holds_of_wide 5 Try.f5 rfl rfl rfl rfl rfl rfl rfl ⟨rfl, rfl, rfl, rfl, rfl⟩ rfl rfl rfl rfl rfl (by kernel_rfl) Try.func5 (by kernel_rfl)
    (of_decide_eq_true (by kernel_rfl)) (by unfold Func.isWrapper; first | (rw [if_pos (by decide +kernel)]; kernel_rfl) | (rw [if_neg (by decide +kernel)]; exact ⟨rfl, rfl⟩))
    (fun os started H enc _ => exactRunBills_lifted os started H enc)

end

end Go.Proofs.Ytdcbonfhakdhhaa
