/- The mathematics of the draws' number, which goes on by a multiplication and an addition: from every start it comes to every number of 64 bits. No statement about the program stands here. -/
import Derived.Test.YtgmhijbepkobkaaRows
import Derived.Test.YtgmhijbepkobkaaKept
namespace Go.Proofs.Ytgmhijbepkobkaa
open Go.RowKit

abbrev lM : Nat := 18446744073709551616
/-- The number goes on, told without a sign. -/
def stN (x : Nat) : Nat := (6364136223846793005 * x + 1442695040888963407) % lM
/-- n steps of f. -/
def itN {α : Type} (f : α → α) : Nat → α → α
  | 0, x => x
  | n + 1, x => itN f n (f x)
theorem itN_zero {α : Type} (f : α → α) (x : α) : itN f 0 x = x := rfl
theorem itN_succ {α : Type} (f : α → α) (n : Nat) (x : α) : itN f (n + 1) x = itN f n (f x) := rfl
theorem itN_add {α : Type} (f : α → α) (a b : Nat) (x : α) : itN f (a + b) x = itN f b (itN f a x) := by
  induction a generalizing x with
  | zero => rw [Nat.zero_add, itN_zero]
  | succ a ih => rw [Nat.succ_add, itN_succ, itN_succ, ih]
def stsN (n x : Nat) : Nat := itN stN n x
theorem stsN_zero (x : Nat) : stsN 0 x = x := itN_zero stN x
theorem stsN_succ (n x : Nat) : stsN (n + 1) x = stsN n (stN x) := itN_succ stN n x
theorem stsN_add (a b x : Nat) : stsN (a + b) x = stsN b (stsN a x) := itN_add stN a b x

/-- Where 2 ^ k steps lead: the factor and what is added. -/
def jTab : List (Nat × Nat) := [(6364136223846793005, 1442695040888963407), (7520897724310334953, 1876011003808476466), (18108194425815612945, 7401132627792533940), (13086856194709077281, 6566661184467396264), (10186629832379121217, 3646985772805368400), (10828933358287359105, 982119659650238624), (4910590176156014849, 10607473198416945472), (9908147928152388097, 6914523672464851584), (146241703003251713, 4689171378020353280), (7321387688379467777, 8103286608563669504), (12255457568021647361, 7710372194127975424), (9867978473775767553, 16043993925053589504), (5088048636545613825, 1993901509916512256), (2150478223927705601, 13175896319671181312), (9196835419631190017, 1993366741509554176), (5957860013156466689, 7241871532530761728), (10389140232424652801, 9829074100562493440), (13023643825678581761, 7211655632440131584), (288945459443007489, 14014807304630960128), (13413133364217511937, 15586959662575517696), (8991946233350193153, 5614651135149211648), (1986842707489718273, 10449321915693662208), (13772462672974970881, 17778722412968280064), (11399802156803424257, 4631015078550831104), (13559343778149433345, 14683519683525607424), (8604389488178757633, 14159509325327892480), (16938562998715285505, 4382386631181598720), (14349518013152100353, 5251965553014210560), (5928836310318972929, 14899444342342025216), (13010594125244792833, 10487453482519363584), (12186130195207421953, 17516142451218186240), (5925516316705292289, 2750482773444657152), (11851032633410584577, 5500965546889314304), (5255321193111617537, 11001931093778628608), (10510642386223235073, 3557118113847705600), (2574540698736918529, 7114236227695411200), (5149081397473837057, 14228472455390822400), (10298162794947674113, 10010200837072093184), (2149581516185796609, 1573657600434634752), (4299163032371593217, 3147315200869269504), (8598326064743186433, 6294630401738539008), (17196652129486372865, 12589260803477078016), (15946560185263194113, 6731777533244604416), (13446376296816836609, 13463555066489208832), (8446008519924121601, 8480366059268866048), (16892017039848243201, 16960732118537732096), (15337290005986934785, 15474720163365912576), (12227835938264317953, 12502696253022273536), (6008927802819084289, 6558648432334995456), (12017855605638168577, 13117296864669990912), (5588967137566785537, 7787849655630430208), (11177934275133571073, 15575699311260860416), (3909124476557590529, 12704654548812169216), (7818248953115181057, 6962565023914786816), (15636497906230362113, 13925130047829573632), (12826251738751172609, 9403516021949595648), (7205759403792793601, 360287970189639680), (14411518807585587201, 720575940379279360), (10376293541461622785, 1441151880758558720), (2305843009213693953, 2882303761517117440), (4611686018427387905, 5764607523034234880), (9223372036854775809, 11529215046068469760), (1, 4611686018427387904), (1, 9223372036854775808)]

theorem jTab_next : ∀ k, k < 63 → (jTab.getD (k + 1) (0, 0)).1 = (jTab.getD k (0, 0)).1 * (jTab.getD k (0, 0)).1 % lM ∧ (jTab.getD (k + 1) (0, 0)).2 = ((jTab.getD k (0, 0)).1 * (jTab.getD k (0, 0)).2 + (jTab.getD k (0, 0)).2) % lM := by decide +kernel
theorem jTab_mod : ∀ k, k < 64 → (jTab.getD k (0, 0)).1 % 2 ^ (k + 1) = 1 ∧ (jTab.getD k (0, 0)).2 % 2 ^ (k + 1) = 2 ^ k := by decide +kernel
theorem pow_dvd : ∀ k, k < 65 → lM % 2 ^ k = 0 := by decide +kernel

theorem jump_alg (A C x m : Nat) : (A * ((A * x + C) % m) + C) % m = (A * A % m * x + (A * C + C) % m) % m := by
  have h1 : (A * ((A * x + C) % m) + C) % m = (A * (A * x + C) + C) % m := by
    rw [Nat.add_mod, Nat.mul_mod, Nat.mod_mod, ← Nat.mul_mod, ← Nat.add_mod]
  have h2 : (A * A % m * x + (A * C + C) % m) % m = (A * A * x + (A * C + C)) % m := by
    rw [Nat.add_mod, Nat.mul_mod, Nat.mod_mod, ← Nat.mul_mod, Nat.mod_mod, ← Nat.add_mod]
  rw [h1, h2]
  congr 1
  rw [Nat.mul_add, Nat.mul_assoc, Nat.add_assoc]

theorem jump (k : Nat) : ∀ x, k < 64 → x < lM → stsN (2 ^ k) x = ((jTab.getD k (0, 0)).1 * x + (jTab.getD k (0, 0)).2) % lM := by
  induction k with
  | zero => intro x _ _; rw [show 2 ^ 0 = 0 + 1 from rfl, stsN_succ, stsN_zero, stN]; rfl
  | succ k ih =>
    intro x hk hx
    have e : 2 ^ (k + 1) = 2 ^ k + 2 ^ k := by rw [Nat.pow_succ]; omega
    rw [e, stsN_add, ih x (by omega) hx, ih _ (by omega) (Nat.mod_lt _ (by decide)), (jTab_next k (by omega)).1, (jTab_next k (by omega)).2]
    exact jump_alg _ _ _ _

theorem reachN (j : Nat) : ∀ x y, j ≤ 64 → x < lM → y < lM → x % 2 ^ (64 - j) = y % 2 ^ (64 - j) → ∃ n, n + 2 ^ (64 - j) ≤ lM ∧ stsN n x = y := by
  induction j with
  | zero =>
    intro x y _ hx hy h
    refine ⟨0, by decide, ?_⟩
    have h : x % lM = y % lM := h
    rw [Nat.mod_eq_of_lt hx, Nat.mod_eq_of_lt hy] at h
    exact h
  | succ j ih =>
    intro x y hj hx hy h
    obtain ⟨k, ek⟩ : ∃ k, 64 - (j + 1) = k := ⟨_, rfl⟩
    have ek1 : 64 - j = k + 1 := by omega
    have hk : k < 64 := by omega
    rw [ek] at h
    rw [ek1] at ih
    by_cases hxy : x % 2 ^ (k + 1) = y % 2 ^ (k + 1)
    · obtain ⟨n, hn1, hn2⟩ := ih x y (by omega) hx hy hxy
      exact ⟨n, by rw [ek]; have e2 : 2 ^ (k + 1) = 2 ^ k * 2 := Nat.pow_succ ..; omega, hn2⟩
    · have hp : 0 < 2 ^ k := Nat.pow_pos (by decide)
      have e2 : 2 ^ (k + 1) = 2 ^ k * 2 := Nat.pow_succ ..
      have hmx : x % 2 ^ (k + 1) = x % 2 ^ k + 2 ^ k * (x / 2 ^ k % 2) := by rw [e2, Nat.mod_mul]
      have hmy : y % 2 ^ (k + 1) = y % 2 ^ k + 2 ^ k * (y / 2 ^ k % 2) := by rw [e2, Nat.mod_mul]
      have hx' : stsN (2 ^ k) x < lM := by rw [jump k x hk hx]; exact Nat.mod_lt _ (by decide)
      have key : stsN (2 ^ k) x % 2 ^ (k + 1) = (x + 2 ^ k) % 2 ^ (k + 1) := by
        rw [jump k x hk hx, Nat.mod_mod_of_dvd _ (Nat.dvd_of_mod_eq_zero (pow_dvd (k + 1) (by omega))), Nat.add_mod, Nat.mul_mod, (jTab_mod k hk).1, (jTab_mod k hk).2, Nat.one_mul, Nat.mod_mod, Nat.add_mod x (2 ^ k)]
        congr 2
        rw [Nat.mod_eq_of_lt]
        rw [e2]; omega
      have hlt : x % 2 ^ k < 2 ^ k := Nat.mod_lt _ hp
      have fin : stsN (2 ^ k) x % 2 ^ (k + 1) = y % 2 ^ (k + 1) := by
        rw [key, Nat.add_mod, Nat.mod_eq_of_lt (show 2 ^ k < 2 ^ (k + 1) by rw [e2]; omega), hmx, hmy, h] 
        rw [hmx, hmy, h] at hxy
        rcases Nat.mod_two_eq_zero_or_one (x / 2 ^ k) with hx2 | hx2 <;> rcases Nat.mod_two_eq_zero_or_one (y / 2 ^ k) with hy2 | hy2 <;> rw [hx2, hy2] at hxy ⊢
        · exact absurd rfl hxy
        · rw [Nat.mul_zero, Nat.add_zero, Nat.mul_one]
          exact Nat.mod_eq_of_lt (by rw [e2]; omega)
        · rw [Nat.mul_zero, Nat.add_zero, Nat.mul_one]
          rw [show y % 2 ^ k + 2 ^ k + 2 ^ k = y % 2 ^ k + 2 ^ (k + 1) by rw [e2]; omega, Nat.add_mod_right]
          exact Nat.mod_eq_of_lt (by rw [e2]; omega)
        · exact absurd rfl hxy
      obtain ⟨n, hn1, hn⟩ := ih _ y (by omega) hx' hy fin
      exact ⟨2 ^ k + n, by rw [ek]; omega, by rw [stsN_add]; exact hn⟩

/-- The number goes on, as the program's numbers do. -/
def lcg (h : Int) : Int := wrap64 (wrap64 (h * 6364136223846793005) + 1442695040888963407)
def lcgN (n : Nat) (h : Int) : Int := itN lcg n h
/-- The byte that is told of a number. -/
def lbV (h : Int) : Int := bits .and .i64 (bits .xor .i64 (h / 8589934592) (h / 35184372088832)) 255

theorem lcgN_zero (x : Int) : lcgN 0 x = x := itN_zero lcg x
theorem lcgN_one (n : Nat) (x : Int) : lcgN (n + 1) x = lcgN n (lcg x) := itN_succ lcg n x
theorem lcgN_add (a b : Nat) (x : Int) : lcgN (a + b) x = lcgN b (lcgN a x) := itN_add lcg a b x
theorem lcgN_succ (n : Nat) (x : Int) : lcgN (n + 1) x = lcg (lcgN n x) := by rw [lcgN_add, lcgN_one, lcgN_zero]

def unN (h : Int) : Nat := (h % 18446744073709551616).toNat
theorem unN_lt (h : Int) : unN h < lM := by unfold unN lM; omega
theorem unN_lcg (h : Int) : unN (lcg h) = stN (unN h) := by
  have e : ((unN h : Nat) : Int) = h % 18446744073709551616 := by unfold unN; omega
  have e2 : ((stN (unN h) : Nat) : Int) = (6364136223846793005 * ((unN h : Nat) : Int) + 1442695040888963407) % 18446744073709551616 := by
    unfold stN lM; omega
  have e3 : ((unN (lcg h) : Nat) : Int) = lcg h % 18446744073709551616 := by unfold unN; omega
  apply Int.ofNat.inj
  show ((unN (lcg h) : Nat) : Int) = ((stN (unN h) : Nat) : Int)
  rw [e3, e2, e]
  unfold lcg wrap64
  obtain ⟨q, hq⟩ : ∃ q, q = h / 18446744073709551616 := ⟨_, rfl⟩
  omega
theorem unN_lcgN (n : Nat) (h : Int) : unN (lcgN n h) = stsN n (unN h) := by
  induction n generalizing h with
  | zero => rw [lcgN_zero, stsN_zero]
  | succ n ih => rw [lcgN_one, stsN_succ, ih, unN_lcg]
theorem lcg_in (h : Int) : -9223372036854775808 ≤ lcg h ∧ lcg h ≤ 9223372036854775807 := by unfold lcg wrap64; omega

/-- FROM EVERY START THE NUMBER COMES TO EVERY NUMBER OF 64 BITS. -/
theorem reach (h T : Int) (hT : -9223372036854775808 ≤ T ∧ T ≤ 9223372036854775807) : ∃ n, n < lM ∧ lcgN n (lcg h) = T := by
  obtain ⟨n, hn1, hn⟩ := reachN 64 (unN (lcg h)) (unN T) (Nat.le_refl _) (unN_lt _) (unN_lt _) (by simp [Nat.mod_one])
  have hu : unN (lcgN n (lcg h)) = unN T := by rw [unN_lcgN]; exact hn
  have hi : -9223372036854775808 ≤ lcgN n (lcg h) ∧ lcgN n (lcg h) ≤ 9223372036854775807 := by
    cases n with
    | zero => exact lcg_in h
    | succ n => rw [lcgN_succ]; exact lcg_in _
  refine ⟨n, by simp at hn1; omega, ?_⟩
  unfold unN at hu
  omega

/-- A draw that goes from a place among n bytes, and a number, to others, and tells a: beyond the bytes it draws 1 to D bytes, and each draw that begins within D bytes behind T is good. -/
structure DrOk (n D : Nat) {α : Type} (DR : Nat → Int → α → Nat → Int → Prop) (good : α → Prop) (T : Int) : Prop where
  int : -9223372036854775808 ≤ T ∧ T ≤ 9223372036854775807
  mid : ∀ i h a i' h', i < n → DR i h a i' h' → i < i' ∧ i' ≤ n
  last : ∀ h a i' h', DR n h a i' h' → i' = n ∧ ∃ d, 1 ≤ d ∧ d ≤ D ∧ h' = lcgN d h
  win : ∀ j a i' h', 1 ≤ j → j ≤ D → DR n (lcgN j T) a i' h' → good a

/-- For how long draws may still go on until one is good. -/
def Rk (n D : Nat) (T : Int) (g i : Nat) (h : Int) : Prop :=
  (i < n ∧ g = (n - i) * 18446744073709551620 + 18446744073709551620) ∨ (i = n ∧ 2 ≤ g ∧ g < 18446744073709551620 ∧ lcgN (g - 2) h = T) ∨ (i = n ∧ g = 1 ∧ ∃ j, 1 ≤ j ∧ j ≤ D ∧ h = lcgN j T)

theorem rk_start (n D : Nat) (T : Int) (hT : -9223372036854775808 ≤ T ∧ T ≤ 9223372036854775807) (i : Nat) (hi : i ≤ n) (h : Int) : ∃ g, Rk n D T g i h ∧ (i = n → g < 18446744073709551620) := by
  by_cases hn : i < n
  · exact ⟨_, Or.inl ⟨hn, rfl⟩, fun e => absurd e (by omega)⟩
  · obtain ⟨m, hm, e⟩ := reach h T hT
    unfold lM at hm
    exact ⟨m + 3, Or.inr (Or.inl ⟨by omega, by omega, by omega, by rw [show m + 3 - 2 = m + 1 from rfl, lcgN_one]; exact e⟩), fun _ => by omega⟩

theorem rk_step {n D : Nat} {T : Int} {α : Type} {DR : Nat → Int → α → Nat → Int → Prop} {good : α → Prop} (hD : DrOk n D DR good T) {g i i' : Nat} {h h' : Int} {a : α} (hr : Rk n D T g i h) (hd : DR i h a i' h') : ∃ g', g' < g ∧ (¬ good a → Rk n D T g' i' h') := by
  rcases hr with ⟨h1, h2⟩ | ⟨h1, h2, h3, h4⟩ | ⟨h1, h2, j, h3, h4, h5⟩
  · obtain ⟨m1, m2⟩ := hD.mid _ _ _ _ _ h1 hd
    obtain ⟨g', r1, r2⟩ := rk_start n D T hD.int i' m2 h'
    by_cases hn : i' < n
    · refine ⟨_, ?_, fun _ => Or.inl ⟨hn, rfl⟩⟩
      omega
    · have := r2 (by omega)
      exact ⟨g', by omega, fun _ => r1⟩
  · subst h1
    obtain ⟨rfl, d, d1, d2, rfl⟩ := hD.last _ _ _ _ hd
    by_cases hg : d ≤ g - 2
    · refine ⟨g - d, by omega, fun _ => Or.inr (Or.inl ⟨rfl, by omega, by omega, ?_⟩)⟩
      rw [← lcgN_add, show d + (g - d - 2) = g - 2 by omega]
      exact h4
    · refine ⟨1, by omega, fun _ => Or.inr (Or.inr ⟨rfl, rfl, d - (g - 2), by omega, by omega, ?_⟩)⟩
      rw [← h4, ← lcgN_add, show g - 2 + (d - (g - 2)) = d by omega]
  · subst h1
    subst h5
    exact ⟨0, by omega, fun hb => absurd (hD.win j a _ _ h3 h4 hd) hb⟩

end Go.Proofs.Ytgmhijbepkobkaa
