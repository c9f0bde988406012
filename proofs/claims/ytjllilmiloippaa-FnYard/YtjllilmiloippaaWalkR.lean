/- Contracts of the laws' own markers and holders of lists of rows: markIntSS, heldIntSS, markHull, heldHull. -/
import Derived.Test.YtjllilmiloippaaWalkQ
namespace Go.Proofs.Ytjllilmiloippaa
open Go.RowKit

/-- How many numbers the first rows hold. -/
def pre (R : List (List Int)) : Nat → Nat
  | 0 => 0
  | r + 1 => pre R r + (R.getD r []).length

theorem pre_le {R : List (List Int)} {n : Nat} (h : ∀ i, i < n → (R.getD i []).length ≤ 1048576) : ∀ r, r ≤ n → pre R r ≤ r * 1048576
  | 0, _ => by simp [pre]
  | r + 1, hr => by
    have h1 := pre_le h r (by omega)
    have h2 := h r (by omega)
    simp only [pre]
    omega

/-- The rows, marked from k on. -/
def mrows (k : Int) (R : List (List Int)) : List (List Int) := (List.range R.length).map fun r : Nat => marks (k + (pre R r : Int)) (R.getD r []).length

theorem mrows_len (k : Int) (R : List (List Int)) : (mrows k R).length = R.length := by simp [mrows]
theorem mrows_get (k : Int) (R : List (List Int)) {r : Nat} (h : r < R.length) : (mrows k R).getD r [] = marks (k + (pre R r : Int)) (R.getD r []).length := by simp [mrows, List.getD, h]
theorem mrows_row (k : Int) (R : List (List Int)) {r : Nat} (h : r < R.length) : ((mrows k R).getD r []).length = (R.getD r []).length := by rw [mrows_get k R h, marks_len]

theorem pre_congr {R R' : List (List Int)} {n : Nat} (h : ∀ r, r < n → (R.getD r []).length = (R'.getD r []).length) : ∀ r, r ≤ n → pre R r = pre R' r
  | 0, _ => rfl
  | r + 1, hr => by simp only [pre]; rw [pre_congr h r (by omega), h r (by omega)]

theorem pre_mrows (k : Int) (R : List (List Int)) {r : Nat} (h : r ≤ R.length) : pre (mrows k R) r = pre R r := pre_congr (fun _ hr => mrows_row k R hr) r h

theorem tops_congr {G C : Nat → Nat} {R R' : List (List Int)} (hl : R.length = R'.length) (h : ∀ r, r < R.length → (R.getD r []).length = (R'.getD r []).length) : tops G C R = tops G C R' := by
  unfold tops
  rw [← hl]
  exact List.map_congr_left fun r hr => by rw [h r (List.mem_range.1 hr)]

theorem ne_nil_of_len {xs : List Int} {n : Nat} (h : xs.length = n) (hn : 0 < n) : xs ≠ [] := fun e => by rw [e] at h; simp at h; omega

set_option maxHeartbeats 800000 in
theorem markIntSS_any (B g cap : Nat) (G C : Nat → Nat) (R : List (List Int)) (k : Int) (w : World) (h : OwnRows B w g G C R) (hn : R.length ≤ 1048576) (hl : ∀ i, i < R.length → (R.getD i []).length ≤ 1048576) (hk0 : 0 ≤ k) (hk1 : k ≤ 1048576) :
    Calls Try.prog 74 #[.slice (some ⟨g, 0, none⟩) R.length cap, .int .i64 k] w fun e w' => e = .returned (.int .i64 (k + pre R R.length)) ∧ Kept (fun b => ∃ r, r < R.length ∧ b = G r) w w' ∧ OwnRows B w' g G C (mrows k R) := by
  have HH := hide h
  have HL := hide hl
  have hpl := pre_le hl
  have HP := hide hpl
  clear h hl hpl
  go_enter Try.func74, Try.ntmps74
  go_wp2
  go_loopg [1, 5] R.length (fun gh kv iv wr => ∃ i : Nat, i ≤ R.length ∧ gh = R.length - i ∧ iv = .int .i64 i ∧ kv = .int .i64 (k + (pre R i : Int)) ∧ Kept (fun b => ∃ r, r < R.length ∧ b = G r) w wr ∧
    (∀ r, r < R.length → OwnV wr (G r) (ints (if r < i then marks (k + (pre R r : Int)) (R.getD r []).length else R.getD r []))))
  case atStart => exact ⟨0, Nat.zero_le _, rfl, rfl, by simp [pre], Kept.refl _ _, fun r hr => by simpa using (unhide HH).rows r hr⟩
  case round =>
    obtain ⟨i, hi, rfl, rfl, rfl, hK, hO⟩ := hrel
    by_cases hin : i < R.length
    · have htop : OwnV wr g (tops G C R) := (unhide HH).top.kept hK (fun ⟨r, hr, e⟩ => ((unhide HH).above r hr).2 e.symm)
      have g1 : wr.cell? ⟨g, i, none⟩ = some (.slice (some ⟨G i, 0, none⟩) (R.getD i []).length (C i)) := htop.cell (tops_get G C R hin)
      have ho : OwnV wr (G i) (ints (R.getD i [])) := by simpa using hO i hin
      have hp1 := unhide HP i hi
      have HM := hide (markIntS_any (some ⟨G i, 0, none⟩) (C i) (R.getD i []) (k + (pre R i : Int)) (G i) wr (fun _ => ⟨rfl, ho⟩) (unhide HL i hin) (by omega) (by omega))
      have EP : Hid ((pre R (i + 1) : Int) = (pre R i : Int) + ((R.getD i []).length : Int)) := by show _ = _; simp [pre]
      have hlen := unhide HL i hin
      have HK := hide hK
      have HO := hide hO
      have Ho := hide ho
      clear hK hO ho htop
      obtain ⟨len, elen⟩ : ∃ len, (R.getD i []).length = len := ⟨_, rfl⟩
      rw [elen] at g1 HM EP hlen
      have EL := hide elen
      clear elen
      go_wp2_with fail
      refine (unhide HM).mono ?_
      rintro e w1 ⟨rfl, hk1', ho1⟩
      have HK1 : Hid (Kept (fun b => ∃ r, r < R.length ∧ b = G r) w w1) := (unhide HK).trans (hk1'.mono (fun b _ ⟨e, _⟩ => ⟨i, hin, e⟩))
      have HO1 : Hid (∀ r, r < R.length → OwnV w1 (G r) (ints (if r < i + 1 then marks (k + (pre R r : Int)) (R.getD r []).length else R.getD r []))) := fun r hr => by
        by_cases e : r = i
        · subst e
          rw [if_pos (by omega)]
          by_cases hne : R.getD r [] = []
          · have hx := (unhide Ho).kept hk1' (fun ⟨_, h⟩ => h hne)
            rw [hne] at hx ⊢
            exact hx
          · rw [unhide EL]; exact ho1 hne
        · have hx := (unhide HO r hr).kept hk1' (fun ⟨h, _⟩ => (unhide HH).apart r i hr hin e h)
          by_cases hlt : r < i
          · rw [if_pos hlt] at hx; rw [if_pos (by omega)]; exact hx
          · rw [if_neg hlt] at hx; rw [if_neg (by omega)]; exact hx
      clear hk1' ho1 HM HK HO Ho g1
      go_wp2
      go_roundg (R.length - (i + 1))
      case measure => omega
      case rel => exact ⟨i + 1, by omega, rfl, by go_num, by rw [unhide EP]; go_num, unhide HK1, unhide HO1⟩
    · have hii : i = R.length := by omega
      subst hii
      have HK := hide hK
      have HO := hide hO
      clear hK hO
      go_wp2
      go_ret
      refine ⟨rfl, unhide HK, (unhide HH).base, ?_, fun r hr => ?_, fun r hr => ?_, fun r hr => ?_, fun r s hr hs => ?_⟩
      · rw [tops_congr (mrows_len k R) (fun r hr => mrows_row k R (by rw [mrows_len] at hr; exact hr))]
        exact (unhide HH).top.kept (unhide HK) (fun ⟨r, hr, e⟩ => ((unhide HH).above r hr).2 e.symm)
      · rw [mrows_len] at hr
        rw [mrows_get k R hr]
        have := unhide HO r hr
        rwa [if_pos hr] at this
      · rw [mrows_len] at hr
        rw [mrows_row k R hr]
        exact (unhide HH).caps r hr
      · rw [mrows_len] at hr
        exact (unhide HH).above r hr
      · rw [mrows_len] at hr hs
        exact (unhide HH).apart r s hr hs

set_option maxHeartbeats 800000 in
theorem heldIntSS_any (v : Value) (R : List (List Int)) (k : Int) (w : World) (h : RowsIn w v R) (hx : ∀ r, r < R.length → R.getD r [] = marks (k + (pre R r : Int)) (R.getD r []).length) (hn : R.length ≤ 1048576) (hl : ∀ i, i < R.length → (R.getD i []).length ≤ 1048576) (hk0 : 0 ≤ k) (hk1 : k ≤ 1048576) :
    Calls Try.prog 75 #[v, .int .i64 k] w fun e w' => e = .returned (.int .i64 (k + pre R R.length)) ∧ w = w' := by
  obtain ⟨ao, cap, rfl, _, _, hc⟩ := h
  have HC := hide hc
  have HX := hide hx
  have HL := hide hl
  have HP := hide (pre_le hl)
  clear hc hx hl
  go_enter Try.func75, Try.ntmps75
  go_wp2
  go_loopg [1, 5] R.length (fun gh kv iv wr => w = wr ∧ ∃ i : Nat, i ≤ R.length ∧ gh = R.length - i ∧ iv = .int .i64 i ∧ kv = .int .i64 (k + (pre R i : Int)))
  case atStart => exact ⟨rfl, 0, Nat.zero_le _, rfl, rfl, by simp [pre]⟩
  case round =>
    obtain ⟨rfl, i, hi, rfl, rfl, rfl⟩ := hrel
    by_cases hin : i < R.length
    · obtain ⟨b, o, ar, m, cr, rfl, hcell, hrow, EM, hm0⟩ := rowAt (unhide HC) hin
      have hp1 := unhide HP i hi
      have HM := hide (heldIntS_any _ _ (k + (pre R i : Int)) w hrow (unhide HX i hin) (unhide HL i hin) (by omega) (by omega))
      have EP : Hid ((pre R (i + 1) : Int) = (pre R i : Int) + ((R.getD i []).length : Int)) := by show _ = _; simp [pre]
      have hlen := unhide HL i hin
      clear hrow
      generalize (R.getD i []).length = len at *
      go_wp2_with fail
      refine (unhide HM).mono ?_
      rintro e w1 ⟨rfl, rfl⟩
      clear HM
      go_wp2
      go_roundg (R.length - (i + 1))
      case measure => omega
      case rel => exact ⟨rfl, i + 1, by omega, rfl, by go_num, by rw [unhide EP]; go_num⟩
    · have hii : i = R.length := by omega
      subst hii
      go_wp2
      go_ret
      exact ⟨rfl, rfl⟩

end Go.Proofs.Ytjllilmiloippaa
