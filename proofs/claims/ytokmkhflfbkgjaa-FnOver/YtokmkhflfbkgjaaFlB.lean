/- Floats that are exact: a number with few enough digits is written as itself; whole numbers add up exactly. No statement about the program stands here. -/
import Derived.Test.YtokmkhflfbkgjaaFlA
namespace Go.Proofs.Ytokmkhflfbkgjaa
open Go.RowKit
open Ieee

theorem cut_zero (neg : Bool) (n : Nat) : Toward.even.cut neg n 0 = n := by
  simp [Toward.cut, Nat.mod_one]

theorem cut_shift (neg : Bool) (n d : Nat) (hn : 0 < n) : Toward.even.cut neg (n * 2 ^ d) d = n := by
  have hp : 0 < n * 2 ^ d := Nat.mul_pos hn (Nat.two_pow_pos _)
  have hl : d ≤ (n * 2 ^ d).log2 := (Nat.le_log2 (by omega)).2 (by
    have : 1 * 2 ^ d ≤ n * 2 ^ d := Nat.mul_le_mul_right _ hn
    omega)
  have hm : min d ((n * 2 ^ d).log2 + 2) = d := by omega
  have hg : (1 : Nat) <<< d = 2 ^ d := by simp [Nat.shiftLeft_eq]
  simp only [Toward.cut, hm, hg, Nat.mul_mod_left, Nat.mul_div_cancel _ (Nat.two_pow_pos d)]
  have h1 : ¬ (2 ^ d < 2 * 0) := by simp
  have h2 : (2 ^ d == 2 * 0) = false := by rw [beq_eq_false_iff_ne]; have := Nat.two_pow_pos d; omega
  simp [h1, h2]

theorem log2_mul_pow (m t : Nat) (hm : 0 < m) : (m * 2 ^ t).log2 = m.log2 + t := by
  have h0 : m * 2 ^ t ≠ 0 := by have := Nat.mul_pos hm (Nat.two_pow_pos t); omega
  apply Nat.le_antisymm
  · have h1 : m < 2 ^ (m.log2 + 1) := Nat.lt_log2_self
    have h2 : m * 2 ^ t < 2 ^ (m.log2 + 1) * 2 ^ t := Nat.mul_lt_mul_of_pos_right h1 (Nat.two_pow_pos t)
    rw [← Nat.pow_add] at h2
    have := (Nat.log2_lt h0).2 h2
    omega
  · rw [Nat.le_log2 h0, Nat.pow_add]
    exact Nat.mul_le_mul_right _ (Nat.log2_self_le (by omega))

/-- The place of the last digit kept. -/
def lastP (f : Format) (mag : Nat) (place : Int) : Int := max (place + mag.log2 - f.fractionBits) f.leastPlace

/-- A number with few enough digits, written with t noughts behind it. -/
theorem nearest_exact (f : Format) (neg : Bool) (mag t : Nat) (place : Int) (hm : 0 < mag) (hb : mag < 2 ^ (f.fractionBits + 1)) (hp : f.leastPlace ≤ place) :
    f.nearest neg (mag * 2 ^ t) (place - t) = f.word neg (min ((lastP f mag place - f.leastPlace).toNat * f.binade + mag * 2 ^ (place - lastP f mag place).toNat) f.infRung) := by
  have hlog : mag.log2 ≤ f.fractionBits := by have := (Nat.log2_lt (by omega : mag ≠ 0)).2 hb; omega
  have h0 : ¬ mag * 2 ^ t = 0 := by have := Nat.mul_pos hm (Nat.two_pow_pos t); omega
  have hl : lastP f mag place ≤ place := by unfold lastP; omega
  have hlast : max (place - t + ((mag * 2 ^ t).log2 : Nat) - f.fractionBits) f.leastPlace = lastP f mag place := by
    rw [log2_mul_pow mag t hm]; unfold lastP; omega
  unfold Format.nearest
  rw [if_neg h0]
  simp only [hlast]
  congr 3
  rw [Nat.shiftLeft_eq]
  by_cases hc : (t : Int) ≤ place - lastP f mag place
  · have e1 : (lastP f mag place - (place - t)).toNat = 0 := by omega
    rw [e1, cut_zero, Nat.mul_assoc, ← Nat.pow_add]
    congr 2
    omega
  · have e1 : (place - t - lastP f mag place).toNat = 0 := by omega
    rw [e1, Nat.pow_zero, Nat.mul_one]
    obtain ⟨d, ed⟩ : ∃ d : Nat, (lastP f mag place - (place - t)).toNat = d := ⟨_, rfl⟩
    obtain ⟨q, eq⟩ : ∃ q : Nat, (place - lastP f mag place).toNat = q := ⟨_, rfl⟩
    rw [ed, eq]
    have et : t = q + d := by omega
    rw [et, Nat.pow_add, ← Nat.mul_assoc]
    exact cut_shift neg _ d (Nat.mul_pos hm (Nat.two_pow_pos _))

theorem nearest_scale (f : Format) (neg : Bool) (mag t : Nat) (place : Int) (hm : 0 < mag) (hb : mag < 2 ^ (f.fractionBits + 1)) (hp : f.leastPlace ≤ place) : f.nearest neg (mag * 2 ^ t) (place - t) = f.nearest neg mag place := by
  rw [nearest_exact f neg mag t place hm hb hp]
  have := nearest_exact f neg mag 0 place hm hb hp
  rw [Nat.pow_zero, Nat.mul_one, show place - ((0 : Nat) : Int) = place by omega] at this
  exact this.symm

/-- What is read of a word whose rung is written so. -/
theorem read_word (f : Format) (neg : Bool) (rung : Nat) (h : rung < f.signWeight) : f.read (f.word neg rung) =
    if rung < f.binade then .number neg rung f.leastPlace
    else if rung < f.infRung then .number neg (f.binade + rung % f.binade) (f.leastPlace + (rung / f.binade - 1 : Nat))
    else if rung = f.infRung then .infinity neg
    else .nan neg (rung - f.infRung) := by
  have h1 : f.word neg rung % f.signWeight = rung := by
    unfold Format.word
    split
    · rw [Nat.add_mod_left, Nat.mod_eq_of_lt h]
    · exact Nat.mod_eq_of_lt h
  have hpos : 0 < f.signWeight := Nat.two_pow_pos _
  have h2 : (f.word neg rung / f.signWeight % 2 == 1) = neg := by
    unfold Format.word
    cases neg with
    | true => rw [if_pos rfl, Nat.add_div_left _ hpos, Nat.div_eq_of_lt h]; rfl
    | false => rw [if_neg (by simp), Nat.div_eq_of_lt h]; rfl
  unfold Format.read
  simp only [h1, h2]

/-- A number with few enough digits that is not too great is read as it was written. -/
theorem read_nearest (f : Format) (neg : Bool) (mag : Nat) (place : Int) (hm : 0 < mag) (hb : mag < 2 ^ (f.fractionBits + 1)) (hp : f.leastPlace ≤ place) (hbig : (place + mag.log2 - f.fractionBits - f.leastPlace) + 2 ≤ ((2 ^ f.exponentBits - 1 : Nat) : Int)) (hexp : 2 ≤ 2 ^ f.exponentBits - 1) :
    f.read (f.nearest neg mag place) = .number neg (mag * 2 ^ (place - lastP f mag place).toNat) (lastP f mag place) := by
  have hlog : mag.log2 ≤ f.fractionBits := by have := (Nat.log2_lt (by omega : mag ≠ 0)).2 hb; omega
  have hl : lastP f mag place ≤ place := by unfold lastP; omega
  have hl2 : f.leastPlace ≤ lastP f mag place := by unfold lastP; omega
  have hne := nearest_exact f neg mag 0 place hm hb hp
  rw [Nat.pow_zero, Nat.mul_one, show place - ((0 : Nat) : Int) = place by omega] at hne
  obtain ⟨q, eq⟩ : ∃ q : Nat, (place - lastP f mag place).toNat = q := ⟨_, rfl⟩
  obtain ⟨e, ee⟩ : ∃ e : Nat, (lastP f mag place - f.leastPlace).toNat = e := ⟨_, rfl⟩
  rw [eq, ee] at hne
  rw [eq]
  have hB : 0 < f.binade := Nat.two_pow_pos _
  -- the kept digits
  have hK : mag * 2 ^ q < 2 * f.binade := by
    have h1 : mag < 2 ^ (mag.log2 + 1) := Nat.lt_log2_self
    have h2 : mag * 2 ^ q < 2 ^ (mag.log2 + 1) * 2 ^ q := Nat.mul_lt_mul_of_pos_right h1 (Nat.two_pow_pos q)
    rw [← Nat.pow_add] at h2
    have h3 : mag.log2 + 1 + q ≤ f.fractionBits + 1 := by unfold lastP at eq; omega
    have h4 : 2 ^ (mag.log2 + 1 + q) ≤ 2 ^ (f.fractionBits + 1) := Nat.pow_le_pow_right (by omega) h3
    have h5 : 2 ^ (f.fractionBits + 1) = 2 * f.binade := by rw [Nat.pow_succ]; unfold Format.binade; omega
    omega
  have hK2 : 0 < e → f.binade ≤ mag * 2 ^ q := by
    intro he
    have h3 : mag.log2 + q = f.fractionBits := by unfold lastP at eq ee; omega
    have h1 : 2 ^ mag.log2 ≤ mag := Nat.log2_self_le (by omega)
    have h2 : 2 ^ mag.log2 * 2 ^ q ≤ mag * 2 ^ q := Nat.mul_le_mul_right _ h1
    rw [← Nat.pow_add, h3] at h2
    exact h2
  generalize mag * 2 ^ q = K at *
  have hinf : f.infRung = (2 ^ f.exponentBits - 1) * f.binade := rfl
  have hE : e + 2 ≤ 2 ^ f.exponentBits - 1 := by
    rcases Nat.eq_zero_or_pos e with h | h
    · omega
    · have : (lastP f mag place) = place + mag.log2 - f.fractionBits := by unfold lastP at ee ⊢; omega
      omega
  have hr : e * f.binade + K < f.infRung := by
    have h1 : (e + 2) * f.binade ≤ (2 ^ f.exponentBits - 1) * f.binade := Nat.mul_le_mul_right _ hE
    rw [Nat.add_mul] at h1
    omega
  have hsw : f.infRung < f.signWeight := f.infRung_lt
  rw [Nat.min_eq_left (by omega)] at hne
  rw [hne, read_word f neg _ (by omega)]
  have hlp : lastP f mag place = f.leastPlace + (e : Int) := by omega
  rw [hlp]
  by_cases he : e = 0
  · subst he
    rw [Nat.zero_mul, Nat.zero_add] at hr ⊢
    by_cases hk : K < f.binade
    · rw [if_pos hk]; simp
    · rw [if_neg hk, if_pos hr]
      have h1 : K / f.binade = 1 := by
        rw [Nat.div_eq_iff hB]; omega
      have h2 : K % f.binade = K - f.binade := by
        rw [Nat.mod_eq_sub_mod (by omega), Nat.mod_eq_of_lt (by omega)]
      rw [h1, h2]
      congr 1
      omega
  · have hk := hK2 (by omega)
    have h1 : e * f.binade + K = (e + 1) * f.binade + (K - f.binade) := by rw [Nat.add_mul]; omega
    have hle : f.binade ≤ (e + 1) * f.binade := by
      have := Nat.mul_le_mul_right f.binade (show 1 ≤ e + 1 by omega); omega
    rw [if_neg (by omega), if_pos hr, h1]
    have h2 : ((e + 1) * f.binade + (K - f.binade)) / f.binade = e + 1 := by
      rw [Nat.mul_comm, Nat.mul_add_div hB, Nat.div_eq_of_lt (by omega)]
    have h3 : ((e + 1) * f.binade + (K - f.binade)) % f.binade = K - f.binade := by
      rw [Nat.mul_comm, Nat.mul_add_mod, Nat.mod_eq_of_lt (by omega)]
    rw [h2, h3]
    congr 1 <;> omega

end Go.Proofs.Ytokmkhflfbkgjaa
