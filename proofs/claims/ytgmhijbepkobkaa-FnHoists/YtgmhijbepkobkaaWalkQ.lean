/- Contracts of the laws' own markers and holders: markIntS, heldIntS, markIntSS, heldIntSS, markHull, heldHull. -/
import Derived.Test.YtgmhijbepkobkaaWalkL
import Derived.Test.YtgmhijbepkobkaaKept
namespace Go.Proofs.Ytgmhijbepkobkaa
open Go.RowKit

/-- k, k + 1, .. : n numbers. -/
def marks (k : Int) (n : Nat) : List Int := (List.range n).map fun i : Nat => k + (i : Int)

theorem marks_len (k : Int) (n : Nat) : (marks k n).length = n := by simp [marks]
theorem marks_get (k : Int) {n i : Nat} (h : i < n) : (marks k n).getD i 0 = k + i := by simp [marks, List.getD, h]

/-- i of n numbers are marked. -/
def midway (xs : List Int) (k : Int) (i : Nat) : List Int := (List.range xs.length).map fun j : Nat => if j < i then k + (j : Int) else xs.getD j 0

theorem midway_len (xs : List Int) (k : Int) (i : Nat) : (midway xs k i).length = xs.length := by simp [midway]

theorem midway_zero (xs : List Int) (k : Int) : midway xs k 0 = xs := by
  apply List.ext_getElem
  · simp [midway]
  · intro i h1 h2
    simp [midway, List.getElem?_eq_getElem h2]

theorem midway_step (xs : List Int) (k : Int) (i : Nat) : (midway xs k i).set i (k + i) = midway xs k (i + 1) := by
  apply List.ext_getElem
  · simp [midway]
  · intro j h1 h2
    rw [List.getElem_set]
    simp only [midway, List.getElem_map, List.getElem_range]
    by_cases e : i = j
    · subst e; simp
    · rw [if_neg e]
      by_cases hlt : j < i
      · rw [if_pos hlt, if_pos (by omega)]
      · rw [if_neg hlt, if_neg (by omega)]

theorem midway_done (xs : List Int) (k : Int) : midway xs k xs.length = marks k xs.length := by
  unfold midway marks
  refine List.map_congr_left fun j hj => ?_
  rw [if_pos (List.mem_range.1 hj)]

set_option maxHeartbeats 800000 in
theorem markIntS_any (ao : Option Addr) (cap : Nat) (xs : List Int) (k : Int) (g : Nat) (w : World) (h : xs ≠ [] → ao = some ⟨g, 0, none⟩ ∧ OwnV w g (ints xs)) (hn : xs.length ≤ 1048576) (hk0 : 0 ≤ k) (hk1 : k ≤ 4611686018427387904) :
    Calls Try.prog 31 #[.slice ao xs.length cap, .int .i64 k] w fun e w' => e = .returned (.int .i64 (k + xs.length)) ∧ Kept (fun b => b = g ∧ xs ≠ []) w w' ∧ (xs ≠ [] → OwnV w' g (ints (marks k xs.length))) := by
  have HH := hide h
  clear h
  go_enter Try.func31, Try.ntmps31
  go_wp2
  go_loopg [1, 5] xs.length (fun gh kv iv wr => ∃ i : Nat, i ≤ xs.length ∧ gh = xs.length - i ∧ iv = .int .i64 i ∧ kv = .int .i64 (k + i) ∧ Kept (fun b => b = g ∧ xs ≠ []) w wr ∧ (xs ≠ [] → OwnV wr g (ints (midway xs k i))))
  case atStart => exact ⟨0, Nat.zero_le _, rfl, rfl, by go_num, Kept.refl _ _, fun hne => by rw [midway_zero]; exact (unhide HH hne).2⟩
  case round =>
    obtain ⟨i, hi, rfl, rfl, rfl, hK, hO⟩ := hrel
    by_cases hin : i < xs.length
    · have hne : xs ≠ [] := fun e => by rw [e] at hin; simp at hin
      obtain ⟨rfl, _⟩ := unhide HH hne
      have ho := hO hne
      have g1 : wr.cell? ⟨g, i, none⟩ = some (.int .i64 ((midway xs k i).getD i 0)) := ho.cell (ints_get _ (by rw [midway_len]; exact hin))
      have g2 : wr.frozen? ⟨g, i, none⟩ = false := ho.frozen i
      have HO' := hide (ho.set i (.int .i64 (k + i)) (by rw [ints_length, midway_len]; exact hin))
      have HK := hide hK
      rw [ints_set, midway_step] at HO'
      clear ho hO hK HH
      generalize (midway xs k i).getD i 0 = x at *
      go_wp2
      go_roundg (xs.length - (i + 1))
      case measure => omega
      case rel => exact ⟨i + 1, by omega, rfl, by go_num, by go_num, (unhide HK).setCell ⟨rfl, hne⟩ _, fun _ => unhide HO'⟩
    · have hii : i = xs.length := by omega
      subst hii
      have HK := hide hK
      have HO := hide hO
      clear hK hO
      go_wp2
      go_ret
      exact ⟨rfl, unhide HK, fun hne => by rw [← midway_done]; exact unhide HO hne⟩

set_option maxHeartbeats 800000 in
theorem heldIntS_any (v : Value) (xs : List Int) (k : Int) (w : World) (h : IntsIn w v xs) (hx : xs = marks k xs.length) (hn : xs.length ≤ 1048576) (hk0 : 0 ≤ k) (hk1 : k ≤ 4611686018427387904) :
    Calls Try.prog 32 #[v, .int .i64 k] w fun e w' => e = .returned (.int .i64 (k + xs.length)) ∧ w = w' := by
  obtain ⟨ao, cap, rfl, hl, hm, hc⟩ := h
  have HC := hide hc
  have HX : Hid (∀ i, i < xs.length → xs.getD i 0 = k + i) := fun i hi => by rw [hx]; exact marks_get k hi
  clear hc hl hm hx
  go_enter Try.func32, Try.ntmps32
  go_wp2
  go_loopg [1, 5] xs.length (fun gh kv iv wr => w = wr ∧ ∃ i : Nat, i ≤ xs.length ∧ gh = xs.length - i ∧ iv = .int .i64 i ∧ kv = .int .i64 (k + i))
  case atStart => exact ⟨rfl, 0, Nat.zero_le _, rfl, rfl, by go_num⟩
  case round =>
    obtain ⟨rfl, i, hi, rfl, rfl, rfl⟩ := hrel
    by_cases hin : i < xs.length
    · obtain ⟨b, o, rfl, hcell⟩ := unhide HC i hin
      rw [unhide HX i hin] at hcell
      go_wp2
      go_roundg (xs.length - (i + 1))
      case measure => omega
      case rel => exact ⟨rfl, i + 1, by omega, rfl, by go_num, by go_num⟩
    · have hii : i = xs.length := by omega
      subst hii
      go_wp2
      go_ret
      exact ⟨rfl, rfl⟩

end Go.Proofs.Ytgmhijbepkobkaa
