/- Shares come to the loss, each within one unit of its part: in numbers (mathematics alone). -/
import Derived.Test.YticminoejikdfaaAvN
namespace Go.Proofs.Yticminoejikdfaa

theorem sumTo_shift (g : Nat → Int) : ∀ n, sumTo g (n + 1) = g 0 + sumTo (fun k => g (k + 1)) n := by
  intro n
  induction n with
  | zero => simp [sumTo]
  | succ n ih =>
    have e : sumTo g (n + 1 + 1) = sumTo g (n + 1) + g (n + 1) := rfl
    have e2 : sumTo (fun k => g (k + 1)) (n + 1) = sumTo (fun k => g (k + 1)) n + g (n + 1) := rfl
    rw [e, ih, e2]
    omega
theorem sumTo_cong {f g : Nat → Int} {n : Nat} (h : ∀ i, i < n → f i = g i) : sumTo f n = sumTo g n := by
  induction n with
  | zero => rfl
  | succ n ih => simp only [sumTo]; rw [ih fun i hi => h i (by omega), h n (by omega)]
theorem sum_ix (f : Int → Int) : ∀ P : List Int, sumTo (fun k => f (ix P k)) P.length = (P.map f).sum := by
  intro P
  induction P with
  | nil => rfl
  | cons a P ih =>
    rw [List.length_cons, sumTo_shift, List.map_cons, List.sum_cons, ← ih]
    rfl
theorem perm_sum (f : Int → Int) {P Q : List Int} (h : P.Perm Q) : (P.map f).sum = (Q.map f).sum := by
  induction h with
  | nil => rfl
  | cons a _ ih => simp only [List.map_cons, List.sum_cons, ih]
  | swap a b l => simp only [List.map_cons, List.sum_cons]; omega
  | trans _ _ h1 h2 => exact h1.trans h2
/-- A sum over the places, in the order of P. -/
theorem SP.sum {r P : List Int} {n : Nat} (h : SP r n P) (f : Nat → Int) : sumTo f n = sumTo (fun k => f (ix P k).toNat) n := by
  have h1 := sum_ix (fun x => f x.toNat) P
  have h2 := sum_ix (fun x => f x.toNat) (plcs n)
  rw [h.len] at h1
  rw [plcs_len] at h2
  rw [h1, perm_sum _ h.perm, ← h2]
  exact sumTo_cong fun i hi => by show f i = f (ix (plcs n) i).toNat; rw [ix_plcs hi, Int.toNat_natCast]
theorem sum_lt (t : Nat) : ∀ n, sumTo (fun k => if k < t then (1 : Int) else 0) n = min (n : Int) t := by
  intro n
  induction n with
  | zero => simp [sumTo]; omega
  | succ n ih => simp only [sumTo]; rw [ih]; split <;> omega
theorem sumTo_add (f g : Nat → Int) : ∀ n, sumTo (fun i => f i + g i) n = sumTo f n + sumTo g n := by
  intro n
  induction n with
  | zero => rfl
  | succ n ih => simp only [sumTo]; rw [ih]; omega
section
variable {L : List Int} {x : Int}
theorem av_units (h : avOk L x) : sumTo (fun i => ix (avS L x (avl L x L.length).toNat) i) L.length = x := by
  have hb := avl_bd h
  obtain ⟨t, et⟩ : ∃ t : Nat, avl L x L.length = (t : Int) := ⟨(avl L x L.length).toNat, by omega⟩
  rw [et, Int.toNat_natCast]
  have e1 : sumTo (fun i => ix (avS L x t) i) L.length = sumTo (fun i => avq L x i + if rk (avR L x) L.length (i : Int) < t then (1 : Int) else 0) L.length := sumTo_cong fun i hi => avS_at hi
  rw [e1, sumTo_add (avq L x)]
  obtain ⟨P, hP⟩ := sp_ex (avR L x) L.length
  rw [hP.sum fun i => if rk (avR L x) L.length (i : Int) < t then (1 : Int) else 0]
  have e2 : sumTo (fun k => if rk (avR L x) L.length (((ix P k).toNat : Nat) : Int) < t then (1 : Int) else 0) L.length = sumTo (fun k => if k < t then (1 : Int) else 0) L.length := sumTo_cong fun k hk => by
    obtain ⟨i, i1, i2⟩ := hP.val hk
    have hr := hP.rk hk
    rw [i2] at hr ⊢
    rw [Int.toNat_natCast, hr]
  rw [e2, sum_lt]
  unfold avl at et hb
  omega
theorem av_pos (h : avOk L x) {i : Nat} (hi : i < L.length) (hr : (rk (avR L x) L.length (i : Int) : Int) < avl L x L.length) : 0 < avr L x i := by
  have hb := avr_bd h i
  refine Int.not_le.1 fun hle => ?_
  have hz : avr L x i = 0 := by omega
  obtain ⟨P, hP⟩ := sp_ex (avR L x) L.length
  obtain ⟨k, hk, ek⟩ := hP.has hi
  have hrk := hP.rk hk
  rw [ek] at hrk
  rw [hrk] at hr
  have hs := hP.sum (avr L x)
  have hS := h.2.1
  have key : ∀ m, m ≤ L.length → sumTo (fun j => avr L x (ix P j).toNat) m ≤ min (m : Int) k * (smA L L.length - 1) := by
    intro m
    induction m with
    | zero =>
      intro _
      have e0 : min ((0 : Nat) : Int) k = 0 := by omega
      rw [e0, Int.zero_mul]
      exact Int.le_refl _
    | succ m ih =>
      intro hm
      have h1 := ih (by omega)
      have h2 := avr_bd h (ix P m).toNat
      simp only [sumTo]
      by_cases c : m < k
      · have e1 : min (m : Int) k = m := by omega
        have e2 : min ((m + 1 : Nat) : Int) k = m + 1 := by omega
        rw [e1] at h1
        rw [e2, Int.add_mul, Int.one_mul]
        omega
      · have e1 : min (m : Int) k = k := by omega
        have e2 : min ((m + 1 : Nat) : Int) k = k := by omega
        rw [e1] at h1
        rw [e2]
        have hle2 := hP.srt.le (i := k) (j := m) (Nat.zero_le _) (by omega) (by omega)
        obtain ⟨j, j1, j2⟩ := hP.val (k := m) (by omega)
        rw [ek, j2] at hle2
        unfold ky at hle2
        rw [Int.toNat_natCast, Int.toNat_natCast] at hle2
        have a1 : (avR L x).getD j 0 = avr L x j := avR_at j1
        have a2 : (avR L x).getD i 0 = avr L x i := avR_at hi
        rw [a1, a2, hz] at hle2
        rw [j2, Int.toNat_natCast] at h2 ⊢
        omega
  have h3 := key L.length (Nat.le_refl _)
  have e0 : min (L.length : Int) k = k := by omega
  rw [e0, ← hs] at h3
  have h4 := av_sum (L := L) (x := x) L.length
  have e5 : smA L L.length * avl L x L.length = sumTo (avr L x) L.length := by
    unfold avl
    rw [Int.mul_sub, Int.mul_comm (smA L L.length) x]
    omega
  have h6 : smA L L.length * ((k : Int) + 1) ≤ smA L L.length * avl L x L.length := Int.mul_le_mul_of_nonneg_left (by omega) (by omega)
  have e7 : (k : Int) * (smA L L.length - 1) = smA L L.length * k - k := by rw [Int.mul_sub, Int.mul_one, Int.mul_comm]
  have e8 : smA L L.length * ((k : Int) + 1) = smA L L.length * k + smA L L.length := by rw [Int.mul_add, Int.mul_one]
  omega
theorem av_near (h : avOk L x) {i : Nat} (hi : i < L.length) :
    -(smA L L.length) < ix (avS L x (avl L x L.length).toNat) i * smA L L.length - x * ix L i ∧ ix (avS L x (avl L x L.length).toNat) i * smA L L.length - x * ix L i < smA L L.length := by
  have hb := avl_bd h
  have hr := avr_bd h i
  have hq := av_qr (L := L) (x := x) i
  have hp := av_pos h hi
  rw [avS_at hi, Int.add_mul, Int.mul_comm (avq L x i), ← hq]
  split
  · rename_i hlt
    have := hp (by omega)
    rw [Int.one_mul]
    omega
  · rw [Int.zero_mul]
    omega
theorem avS_bd (h : avOk L x) {t i : Nat} (hi : i < L.length) : 0 ≤ ix (avS L x t) i ∧ ix (avS L x t) i ≤ x + 1 := by
  have := avq_bd h hi
  rw [avS_at hi]
  split <;> omega
end

end Go.Proofs.Yticminoejikdfaa
