/- A holed hull as a plain function: what each station's half-breadths become; the contract of the program's letIn. -/
import Derived.Test.YticcjdcglfiggaaOwnCp
import Derived.Test.YticcjdcglfiggaaStG
namespace Go.Proofs.Yticcjdcglfiggaa
open Go.RowKit

def dip (p x : Int) : Int := x * (100 - p) / 100
def dipRow (p : Int) (row : List Int) : List Int := row.map (dip p)

theorem dip_zero (x : Int) : dip 0 x = x := by unfold dip; omega
theorem dipRow_zero (row : List Int) : dipRow 0 row = row := by
  unfold dipRow
  rw [show dip 0 = id from funext dip_zero]; simp
theorem dipRow_len (p : Int) (row : List Int) : (dipRow p row).length = row.length := by simp [dipRow]

/-- How much water fills the room of the first k in which station s lies (the last of them). -/
def permTo (L : List I3) (s : Nat) : Nat → Int
  | 0 => 0
  | k + 1 => if inB s (L.getD k default).1 (L.getD k default).2.1 = true then (L.getD k default).2.2 else permTo L s k

/-- The rows, each let in by its own number. -/
def dips (R : List (List Int)) (P : Nat → Int) : List (List Int) := (List.range R.length).map fun s => dipRow (P s) (R.getD s [])

theorem dips_len (R : List (List Int)) (P : Nat → Int) : (dips R P).length = R.length := by simp [dips]
theorem dips_get (R : List (List Int)) (P : Nat → Int) {s : Nat} (h : s < R.length) : (dips R P).getD s [] = dipRow (P s) (R.getD s []) := by simp [dips, List.getD, h]
theorem dips_congr {R : List (List Int)} {P Q : Nat → Int} (h : ∀ s, s < R.length → P s = Q s) : dips R P = dips R Q := by
  unfold dips
  refine List.map_congr_left fun s hs => ?_
  rw [h s (List.mem_range.1 hs)]
theorem list_getD_map_range {α : Type} (R : List α) (d : α) : (List.range R.length).map (fun s => R.getD s d) = R := by
  refine List.ext_getElem (by simp) fun i h1 h2 => ?_
  simp at h1
  simp [List.getD, h1]
theorem dips_none (R : List (List Int)) : dips R (fun _ => 0) = R := by
  unfold dips
  simp only [dipRow_zero]
  exact list_getD_map_range R []

theorem dips_set {R : List (List Int)} {P : Nat → Int} {t : Nat} {p : Int} (ht : t < R.length) (hz : P t = 0) :
    (dips R P).set t (dipRow p ((dips R P).getD t [])) = dips R (fun s => if s = t then p else P s) := by
  rw [dips_get R P ht, hz, dipRow_zero]
  refine List.ext_getElem (by simp [dips]) fun i h1 h2 => ?_
  rw [dips_len] at h2
  rw [List.getElem_set]
  by_cases e : t = i
  · subst e; simp [dips]
  · simp [dips, e, show ¬ i = t by omega]

/-- One row of such a list is another one, of the same length. -/
theorem OwnRows.setRow {B : Nat} {w w' : World} {g s : Nat} {G C : Nat → Nat} {M : List (List Int)} {row : List Int} (h : OwnRows B w g G C M) (hs : s < M.length) (hk : Kept (fun b => b = G s) w w') (ho : OwnV w' (G s) (ints row)) (hl : row.length = (M.getD s []).length) :
    OwnRows B w' g G C (M.set s row) := by
  have gd : ∀ r, r < M.length → (M.set s row).getD r [] = if r = s then row else M.getD r [] := fun r hr => by
    by_cases e : r = s
    · subst e; simp [List.getD, hr]
    · rw [if_neg e]; simp [List.getD, show ¬ s = r by omega]
  have gl : ∀ r, r < M.length → ((M.set s row).getD r []).length = (M.getD r []).length := fun r hr => by
    rw [gd r hr]
    by_cases e : r = s
    · subst e; rw [if_pos rfl, hl]
    · rw [if_neg e]
  have et : tops G C (M.set s row) = tops G C M := by
    unfold tops
    rw [List.length_set]
    refine List.map_congr_left fun r hr => ?_
    rw [gl r (List.mem_range.1 hr)]
  have hne := (h.above s hs).2
  refine ⟨h.base, by rw [et]; exact h.top.kept hk (fun e => hne e.symm), fun r hr => ?_, fun r hr => ?_, fun r hr => ?_, fun r s' hr hs' => ?_⟩
  · rw [List.length_set] at hr
    rw [gd r hr]
    by_cases e : r = s
    · subst e; rw [if_pos rfl]; exact ho
    · rw [if_neg e]; exact (h.rows r hr).kept hk (h.apart r s hr hs e)
  · rw [List.length_set] at hr; rw [gl r hr]; exact h.caps r hr
  · rw [List.length_set] at hr; exact h.above r hr
  · rw [List.length_set] at hr hs'; exact h.apart r s' hr hs'

/-- The first k numbers let in. -/
def dipTo (p : Int) (xs : List Int) (k : Nat) : List Int := (List.range xs.length).map fun j => if j < k then dip p (xs.getD j 0) else xs.getD j 0

theorem dipTo_len (p : Int) (xs : List Int) (k : Nat) : (dipTo p xs k).length = xs.length := by simp [dipTo]
theorem dipTo_zero (p : Int) (xs : List Int) : dipTo p xs 0 = xs := by
  unfold dipTo
  simp only [Nat.not_lt_zero, if_false]
  exact list_getD_map_range xs 0
theorem dipTo_all (p : Int) (xs : List Int) : dipTo p xs xs.length = dipRow p xs := by
  refine List.ext_getElem (by simp [dipTo, dipRow]) fun i h1 h2 => ?_
  simp [dipTo] at h1
  simp [dipTo, dipRow, List.getD, h1]
theorem dipTo_at (p : Int) (xs : List Int) {k : Nat} (h : k < xs.length) : (dipTo p xs k).getD k 0 = xs.getD k 0 := by simp [dipTo, List.getD, h]
theorem dipTo_succ (p : Int) (xs : List Int) {k : Nat} : (dipTo p xs k).set k (dip p (xs.getD k 0)) = dipTo p xs (k + 1) := by
  refine List.ext_getElem (by simp [dipTo]) fun i h1 h2 => ?_
  rw [dipTo_len] at h2
  rw [List.getElem_set]
  by_cases e : k = i
  · subst e; simp [dipTo]
  · simp only [if_neg e, dipTo, List.getElem_map, List.getElem_range]
    by_cases h : i < k
    · rw [if_pos h, if_pos (by omega)]
    · rw [if_neg h, if_neg (by omega)]

set_option maxHeartbeats 800000 in
theorem letIn_any (g cap m : Nat) (xs : List Int) (p : Int) (w : World) (h : OwnV w g (ints xs)) (hxl : xs.length = m) (hm : m ≤ 1048576) (hx : ∀ i, i < xs.length → 0 ≤ xs.getD i 0 ∧ xs.getD i 0 ≤ 50) (hp0 : 0 ≤ p) (hp1 : p ≤ 100) :
    Calls Try.prog 59 #[.slice (some ⟨g, 0, none⟩) m cap, .int .i64 p] w fun e w' => e = .returned (.tuple #[]) ∧ Kept (fun b => b = g) w w' ∧ OwnV w' g (ints (dipRow p xs)) := by
  have HX := hide hx
  have HL := hide hxl
  have HO := hide h
  clear hx hxl h
  go_enter Try.func59, Try.ntmps59
  go_wp2
  go_loopg [8] m (fun gh i wr => ∃ k : Nat, k ≤ m ∧ gh = m - k ∧ i = .int .i64 k ∧ Kept (fun b => b = g) w wr ∧ OwnV wr g (ints (dipTo p xs k)))
  case atStart => exact ⟨0, Nat.zero_le _, rfl, rfl, Kept.refl _ _, by rw [dipTo_zero]; exact unhide HO⟩
  case round =>
    obtain ⟨k, hk, rfl, rfl, hK, hO⟩ := hrel
    by_cases hkn : k < m
    · have hkx : k < xs.length := by rw [unhide HL]; exact hkn
      have g1 : wr.cell? ⟨g, k, none⟩ = some (.int .i64 (xs.getD k 0)) := by
        have := hO.cell (i := k) (ints_get _ (by rw [dipTo_len]; exact hkx))
        rwa [dipTo_at p xs hkx] at this
      have g2 := hO.frozen k
      obtain ⟨x1, x2⟩ := unhide HX k hkx
      have HN : Hid (∀ v, v = dip p (xs.getD k 0) → Kept (fun b => b = g) w (wr.setCell ⟨g, k, none⟩ (.int .i64 v)) ∧ OwnV (wr.setCell ⟨g, k, none⟩ (.int .i64 v)) g (ints (dipTo p xs (k + 1)))) := by
        intro v hv
        subst hv
        refine ⟨hK.setCell rfl _, ?_⟩
        have := hO.set k (.int .i64 (dip p (xs.getD k 0))) (by rw [ints_length, dipTo_len]; exact hkx)
        rwa [ints_set, dipTo_succ] at this
      obtain ⟨m1, m2⟩ := mul_bd (a := xs.getD k 0) (b := 100 - p) (A := 50) (B := 100) x1 x2 (by omega) (by omega)
      have HD : Hid (dip p (xs.getD k 0) = xs.getD k 0 * (100 - p) / 100) := hide rfl
      clear hK hO
      generalize xs.getD k 0 = x at *
      generalize em : x * (100 - p) = q at *
      go_wp2
      go_roundg (m - (k + 1))
      case measure => omega
      case rel => exact ⟨k + 1, by omega, rfl, by go_num, unhide HN _ (unhide HD).symm⟩
    · have hkk : k = m := by omega
      have HO' : Hid (OwnV wr g (ints (dipRow p xs))) := by show OwnV _ _ _; rw [← dipTo_all, unhide HL, ← hkk]; exact hO
      have HK := hide hK
      clear hO hK
      go_wp2
      go_end0
      exact ⟨rfl, unhide HK, unhide HO'⟩

end Go.Proofs.Yticcjdcglfiggaa
