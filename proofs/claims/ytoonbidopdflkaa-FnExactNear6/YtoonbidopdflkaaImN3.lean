/- The contract of the library's sort by the comparison within Near6, in this claim's words. -/
import Derived.Test.YtoonbidopdflkaaImN2
import Derived.Test.YtoonbidopdflkaaNrM
import Derived.Test.YtoonbidopdflkaaShSort
import Derived.Shelf.SlSortCmp.WholeK
namespace Go.Proofs.Ytoonbidopdflkaa
open Go.RowKit Go.Shelf Go.Sort

/-- A feature whose place is near enough that no difference overflows. -/
def FB : Type := { f : FeatureT // 0 ≤ f.2.2.1 ∧ f.2.2.1 ≤ 11 ∧ 0 ≤ f.2.2.2.1 ∧ f.2.2.2.1 ≤ 11 }
instance : Inhabited FB := ⟨⟨(0, 0, 0, 0, ⟨#[]⟩), by decide⟩⟩
def encF (f : FB) : List Value := [.int .i64 f.1.1, .int .i64 f.1.2.1, .int .i64 f.1.2.2.1, .int .i64 f.1.2.2.2.1, .string f.1.2.2.2.2]
def cfF (x y : Int) (f g : FB) : Int := cmpF x y f.1 g.1

theorem lt_cfF (x y : Int) (f g : FB) : Go.Proofs.ltOf (cfF x y) f g = true ↔ nrLt x y f.1 g.1 := by
  unfold Go.Proofs.ltOf cfF cmpF orI cmpI nrLt
  rw [decide_eq_true_eq]
  by_cases h1 : nrAt f.1 x y < nrAt g.1 x y
  · simp [h1]
  · by_cases h2 : nrAt g.1 x y < nrAt f.1 x y
    · have h3 : ¬ nrAt f.1 x y = nrAt g.1 x y := by omega
      simp [h1, h2, h3]
    · have h3 : nrAt f.1 x y = nrAt g.1 x y := by omega
      by_cases h4 : f.1.1 < g.1.1
      · simp [h3, h4]
      · by_cases h5 : g.1.1 < f.1.1 <;> simp [h3, h4, h5]
theorem lt_cfF_not (x y : Int) (f g : FB) : Go.Proofs.ltOf (cfF x y) f g = false ↔ ¬ nrLt x y f.1 g.1 := by
  rw [← lt_cfF]; simp
theorem swo_cfF (x y : Int) : SWO (Go.Proofs.ltOf (cfF x y)) :=
  ⟨fun a => by rw [lt_cfF_not]; unfold nrLt; omega, fun a b c h1 h2 => by rw [lt_cfF] at *; unfold nrLt at *; omega, fun a b c h1 h2 => by rw [lt_cfF_not] at *; unfold nrLt at *; omega⟩

theorem encF_e (f : FB) (r : Nat) (hr : r < 5) : (encF f)[r]! = eFeature f.1 r := by
  have : r = 0 ∨ r = 1 ∨ r = 2 ∨ r = 3 ∨ r = 4 := by omega
  rcases this with rfl | rfl | rfl | rfl | rfl <;> rfl

theorem sortW_kept (w : World) (g n : Nat) (d : Array FB) (os : Array Obj) : Kept (fun b => b = g) w (sortWorldK encF 5 w g 0 n d os) := by
  refine ⟨rfl, rfl, rfl, ?_, fun k hk hne => ?_⟩
  · unfold sortWorldK grow putRowK putRow mapBlock
    simp
  · unfold sortWorldK grow putRowK putRow mapBlock
    show (w.heap.modify g _ ++ os)[k]? = _
    rw [Array.getElem?_append_left (by simpa using hk), Array.getElem?_modify, if_neg (fun e => hne e.symm)]

theorem getD_val (d : Array FB) {i : Nat} (hi : i < d.size) : (d.toList.map (·.1)).getD i default = (d[i]!).1 := by
  rw [getElem!_pos d i hi]
  simp [List.getD, hi]

theorem flat_rec (d : Array FB) {j : Nat} (hj : j < d.size * 5) : (recCells 5 eFeature (d.toList.map (·.1)))[j]? = some ((flatK encF 5 d)[j]!) := by
  have hi : j / 5 < d.size := by omega
  have hr : j % 5 < 5 := by omega
  rw [get_flatK _ _ _ _ hj, encF_e _ _ hr, ← getD_val d hi]
  have hj' : j < (d.toList.map (·.1)).length * 5 := by simpa using hj
  unfold recCells
  rw [List.getElem?_map, List.getElem?_range hj']
  rfl

theorem holdsK_of (w : World) (g : Nat) (d : Array FB) (h : OwnV w g (recCells 5 eFeature (d.toList.map (·.1)))) : HoldsK encF 5 w g 0 d := by
  intro j hj
  rw [size_flatK] at hj
  rw [Nat.zero_add]
  exact ⟨h.cell (flat_rec d hj), h.frozen j⟩

theorem own_of_holds (w : World) (g n : Nat) (d d' : Array FB) (os : Array Obj) (hs : d'.size = d.size) (h : OwnV w g (recCells 5 eFeature (d.toList.map (·.1)))) : OwnV (sortWorldK encF 5 w g 0 n d' os) g (recCells 5 eFeature (d'.toList.map (·.1))) := by
  have hH := holdsK_sortWorldK_c encF 5 w g 0 d d' n os (holdsK_of w g d h) h.lt hs
  have hlt := h.lt
  obtain ⟨c, t, hb, _⟩ := h
  have hb' : (sortWorldK encF 5 w g 0 n d' os).heap[g]? = some (.cells (putCells id 0 (flatK encF 5 d') c) t (0, 0)) := by
    unfold sortWorldK grow putRowK putRow mapBlock
    show (w.heap.modify g _ ++ os)[g]? = _
    rw [Array.getElem?_append_left (by simpa using hlt), Array.getElem?_modify, if_pos rfl, hb]
    rfl
  refine ⟨_, t, hb', fun i hi => ?_⟩
  have hi5 : i < d'.size * 5 := by rw [recCells_length] at hi; simpa using hi
  rw [flat_rec d' hi5]
  have hc := (hH i (by rw [size_flatK]; exact hi5)).1
  rw [Nat.zero_add] at hc
  simpa [World.cell?, hb'] using hc

theorem pair_of_sorted {x y : Int} {d : Array FB} (h : SortedIn (Go.Proofs.ltOf (cfF x y)) 0 d.size d) : (d.toList.map (·.1)).Pairwise (fun a b => ¬ nrLt x y b a) := by
  rw [List.pairwise_map, List.pairwise_iff_getElem]
  intro i j hi hj hij
  have hi' : i < d.size := by simpa using hi
  have hj' : j < d.size := by simpa using hj
  have := h i j (Nat.zero_le _) hij hj'
  rw [lt_cfF_not, getElem!_pos d i hi', getElem!_pos d j hj'] at this
  simpa using this

theorem to_FB : ∀ (L : List FeatureT), (∀ f ∈ L, 0 ≤ f.2.2.1 ∧ f.2.2.1 ≤ 11 ∧ 0 ≤ f.2.2.2.1 ∧ f.2.2.2.1 ≤ 11) → ∃ d : List FB, d.map (·.1) = L
  | [], _ => ⟨[], rfl⟩
  | f :: L, h => by
    obtain ⟨d, e⟩ := to_FB L (fun g hg => h g (List.mem_cons_of_mem _ hg))
    exact ⟨⟨f, h f List.mem_cons_self⟩ :: d, by subst e; rfl⟩

set_option maxRecDepth 100000 in
theorem sortNear_any (L : List FeatureT) (hL : ∀ f ∈ L, 0 ≤ f.2.2.1 ∧ f.2.2.1 ≤ 11 ∧ 0 ≤ f.2.2.2.1 ∧ f.2.2.2.1 ≤ 11) (hlen : L.length ≤ 30) (x y : Int) (hx : 0 ≤ x ∧ x ≤ 11) (hy : 0 ≤ y ∧ y ≤ 11) (px py pa g cap : Nat) (w : World) (hO : OwnV w g (recCells 5 eFeature L))
    (hpx : w.cell? ⟨px, 0, none⟩ = some (.int .i64 x)) (hpy : w.cell? ⟨py, 0, none⟩ = some (.int .i64 y)) (hpa : w.cell? ⟨pa, 0, none⟩ = some (.func (.func 66) #[] #[.pointer (some ⟨px, 0, none⟩), .pointer (some ⟨py, 0, none⟩)])) (nx : px ≠ g) (ny : py ≠ g) (na : pa ≠ g) :
    Calls Try.prog 69 #[.slice (some ⟨g, 0, none⟩) L.length cap, .func (.func 70) #[] #[.pointer (some ⟨pa, 0, none⟩)]] w fun e w' => e = .returned (.tuple #[]) ∧ ∃ S, S.Perm L ∧ S.Pairwise (fun a b => ¬ nrLt x y b a) ∧ OwnV w' g (recCells 5 eFeature S) ∧ Kept (fun b => b = g) w w' := by
  obtain ⟨d, ed⟩ : ∃ d : Array FB, d.toList.map (·.1) = L := by
    obtain ⟨d, e⟩ := to_FB L hL
    exact ⟨d.toArray, by simpa using e⟩
  have hsize : d.size = L.length := by rw [← ed]; simp
  rw [← ed] at hO
  have eg : ∀ args w, (callFunc 70 args).run Try.prog w = .ok (.enter 70 args) w := enters_of Try.func70 (by kernel_rfl) rfl
  have hcmp : CmpLays Try.prog 70 #[.pointer (some ⟨pa, 0, none⟩)] encF 5 (cfF x y) g 0 d.size w := fun m os dk hdk f h => by
    have hK := sortW_kept w g m dk os
    have c1 := (World.cell?_of_block (w := w) (a := ⟨px, 0, none⟩) (hK.block px (lt_of_cell hpx) nx)).trans hpx
    have c2 := (World.cell?_of_block (w := w) (a := ⟨py, 0, none⟩) (hK.block py (lt_of_cell hpy) ny)).trans hpy
    have c3 := (World.cell?_of_block (w := w) (a := ⟨pa, 0, none⟩) (hK.block pa (lt_of_cell hpa) na)).trans hpa
    obtain ⟨⟨f0, f1, f2, f3, f4⟩, p1, p2, p3, p4⟩ := f
    obtain ⟨⟨h0, h1, h2, h3, h4⟩, q1, q2, q3, q4⟩ := h
    exact (cmpNear_any f0 f1 f2 f3 f4 h0 h1 h2 h3 h4 x y px py pa _ ⟨p1, p2⟩ ⟨p3, p4⟩ ⟨q1, q2⟩ ⟨q3, q4⟩ hx hy c1 c2 c3).mono fun e w' ⟨he, hb⟩ => ⟨he, hb.grow⟩
  have hcon := AnyQ.slices_SortFunc sortFe 5 Try.isAgg95 Try.sizeOf95 encF (fun _ => rfl) (fun f v hv => by simp [encF] at hv; rcases hv with rfl | rfl | rfl | rfl | rfl <;> rfl) (cfF x y) (swo_cfF x y) 70 #[.pointer (some ⟨pa, 0, none⟩)] g 0 cap d w eg hcmp (holdsK_of w g d hO) hO.lt (by omega)
  rw [hsize] at hcon
  refine Calls.mono (P := Try.prog) (f := 69) hcon fun e w' ⟨he, d', n, os, hp, hs, hw⟩ => ?_
  subst hw
  obtain ⟨h1, -, h3⟩ := hp
  rw [hsize] at h1
  have e1 : d'.extract 0 L.length = d' := by rw [← h1]; simp
  have e2 : d.extract 0 L.length = d := by rw [← hsize]; simp
  rw [e1, e2] at h3
  refine ⟨he, d'.toList.map (·.1), ?_, pair_of_sorted (by rw [h1]; exact hs), own_of_holds w g n d d' os (by omega) hO, sortW_kept w g n d' os⟩
  rw [← ed]
  exact h3.map _

end Go.Proofs.Ytoonbidopdflkaa
