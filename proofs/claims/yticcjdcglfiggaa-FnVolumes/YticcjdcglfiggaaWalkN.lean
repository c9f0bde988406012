/- Four times the moment along as a plain function; the contracts of both Along4. -/
import Derived.Test.YticcjdcglfiggaaWalkM
namespace Go.Proofs.Yticcjdcglfiggaa
open Go.RowKit

def alongF (step : Int) (xs : List Int) (i : Nat) : Int := xs.getD i 0 * step * (2 * (i : Int) + 1)

theorem alongF_bd {step : Int} {xs : List Int} (hs : ∀ i, i < xs.length → 1 ≤ step ∧ step ≤ 100) (hx : ∀ i, i < xs.length → 0 ≤ xs.getD i 0 ∧ xs.getD i 0 ≤ 4000000) (hn : xs.length ≤ 11) :
    ∀ i, i < xs.length → (0 ≤ xs.getD i 0 * step ∧ xs.getD i 0 * step ≤ 400000000) ∧ 0 ≤ alongF step xs i ∧ alongF step xs i ≤ 12000000000 := fun i hi => by
  have a := hs i hi
  have b := hx i hi
  have d := mul_bd (A := 4000000) (B := 100) b.1 b.2 (by omega) a.2
  have e := mul_bd (a := xs.getD i 0 * step) (b := 2 * (i : Int) + 1) (A := 400000000) (B := 25) d.1 (by omega) (by omega) (by omega)
  unfold alongF
  exact ⟨⟨d.1, by omega⟩, e.1, by omega⟩

def along (step rise : Int) (R : List (List Int)) (c : Int) : Int := sumTo (alongF step (strips step rise R c)) (strips step rise R c).length

set_option maxHeartbeats 800000 in
theorem implAlong4_any (step rise : Int) (v : Value) (R : List (List Int)) (c : Int) (w : World) (h : RowsIn w v R) :
    Calls Try.prog 18 #[hullV step rise v, .int .i64 c] w fun e w' => e = .returned (.int .i64 (along step rise R c)) ∧ Below w.heap.size w w' := by
  have HV := hide h
  obtain ⟨ao, cap, rfl, hl, hm, hc⟩ := h
  clear hc hl hm
  unfold hullV
  have HB0 := hide (box3_alloc w (.int .i64 step) (.int .i64 rise) (.slice ao R.length cap) 26)
  have HW0 := hide (Below.alloc1 w (.cells #[.int .i64 step, .int .i64 rise, .slice ao R.length cap] 26))
  go_enter Try.func18, Try.ntmps18
  go_wp2_with fail
  refine (implStrips2_any step rise _ R c _ ((unhide HV).below (unhide HW0))).mono ?_
  rintro e w1 ⟨ao1, n1, cap1, rfl, ho, hb⟩
  have HI := hide ho.intsIn
  have HB1 := hide ((unhide HB0).step hb)
  have HW1 := hide (Below.step (unhide HW0) hb)
  clear ho hb HW0 HB0
  obtain ⟨xs, exs⟩ : ∃ xs, xs = strips step rise R c := ⟨_, rfl⟩
  have EV : Hid (along step rise R c = sumTo (alongF step xs) xs.length) := by show _ = _; rw [exs]; rfl
  have hn : xs.length ≤ 11 := by rw [exs]; exact strips_len _ _ _ _
  have HX : Hid (∀ i, i < xs.length → (0 ≤ xs.getD i 0 * step ∧ xs.getD i 0 * step ≤ 400000000) ∧ 0 ≤ alongF step xs i ∧ alongF step xs i ≤ 12000000000) := by
    refine alongF_bd ?_ ?_ hn
    · rw [exs]; exact fun i hi => ⟨(strips_at hi).1.step1, (strips_at hi).1.step2⟩
    · rw [exs]; exact fun i hi => (strips_at hi).2
  rw [← exs] at HI
  clear exs
  obtain ⟨en, _, _⟩ := (unhide HI).len
  subst en
  obtain ⟨c0, c1, c2⟩ := unhide HB1
  go_wp2
  go_loopg [5, 12] xs.length (fun g sv i wr => w1 = wr ∧ ∃ k : Nat, k ≤ xs.length ∧ g = xs.length - k ∧ i = .int .i64 k ∧ sv = .int .i64 (sumTo (alongF step xs) k))
  case atStart => exact ⟨rfl, 0, Nat.zero_le _, rfl, rfl, rfl⟩
  case round =>
    obtain ⟨rfl, k, hk, rfl, rfl, rfl⟩ := hrel
    by_cases hkn : k < xs.length
    · obtain ⟨b, o, rfl, hcell⟩ := intAt (unhide HI) hkn
      have hb := unhide HX k hkn
      have sb := sumTo_bd (fun i hi => (unhide HX i hi).2) k hk
      have ES : Hid (sumTo (alongF step xs) (k + 1) = sumTo (alongF step xs) k + xs.getD k 0 * step * (2 * (k : Int) + 1)) := rfl
      unfold alongF at hb
      generalize xs.getD k 0 = x at *
      generalize sumTo (alongF step xs) k = S at *
      obtain ⟨sb1, sb2⟩ := sb
      obtain ⟨⟨hb1, hb2⟩, hb3, hb4⟩ := hb
      go_wp2
      go_roundg (xs.length - (k + 1))
      case measure => omega
      case rel => exact ⟨rfl, k + 1, by omega, rfl, by go_num, by rw [unhide ES]⟩
    · have hkk : k = xs.length := by omega
      subst hkk
      go_wp2
      go_ret
      exact ⟨ret_int (unhide EV).symm, unhide HW1⟩

end Go.Proofs.Yticcjdcglfiggaa
