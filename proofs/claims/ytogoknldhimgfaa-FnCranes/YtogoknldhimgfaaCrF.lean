/- Cranes: the contract of the program's push. -/
import Derived.Test.YtogoknldhimgfaaCrE
import Derived.Test.YtogoknldhimgfaaBvW
namespace Go.Proofs.Ytogoknldhimgfaa
open Go.RowKit

theorem cmp_side {s x y : Int} (hs : s = 1 ∨ s = -1) : (cmpI x y = s) ↔ 0 < s * (x - y) := by
  unfold cmpI
  rcases hs with rfl | rfl
  · split
    · constructor <;> intro h <;> omega
    · split <;> constructor <;> intro h <;> omega
  · split
    · constructor <;> intro h <;> omega
    · split <;> constructor <;> intro h <;> omega
theorem psS_side {L : List CraneT} {i : Nat} {t : Int} (h : t ≠ (cr L i).1) : (psS L i t = 1 ∨ psS L i t = -1) ∧ cmpI t (cr L i).1 = psS L i t ∧ 0 < psS L i t * (t - (cr L i).1) := by
  unfold psS cmpI
  by_cases h1 : (cr L i).1 < t
  · rw [if_pos h1, if_neg (by omega)]; exact ⟨Or.inl rfl, by rw [if_pos h1], by omega⟩
  · rw [if_neg h1, if_pos (by omega)]; exact ⟨Or.inr rfl, rfl, by omega⟩
theorem pN_in {s : Int} (hs : s = 1 ∨ s = -1) {i n k : Nat} (hi : i < n) (hk : k ≤ pN s i n) : inB ((i : Int) + s * ((k : Int) + 1)) 0 ((n : Int) - 1) = decide (k + 1 ≤ pN s i n) := by
  rw [Bool.eq_iff_iff]
  simp only [inB, Bool.and_eq_true, decide_eq_true_eq]
  unfold pN at hk ⊢
  rcases hs with rfl | rfl
  · rw [if_pos rfl] at hk ⊢; omega
  · rw [if_neg (by omega)] at hk ⊢; omega
/-- What a push tells. -/
def PuAns (w : World) (g : Nat) (L : List CraneT) (E : List CraneT) (gap : Int) (e : Ending) (w' : World) : Prop :=
  e = .returned (.bool (decide (CrP E gap))) ∧ (∃ M, OwnV w' g (recCells 3 eCrane M) ∧ M.length = L.length ∧ (CrP E gap → M = E)) ∧ Kept (fun b => b = g) w w'
theorem puAns_yes {w w' : World} {g : Nat} {L E M : List CraneT} {gap : Int} (ho : OwnV w' g (recCells 3 eCrane M)) (hM : M = E) (hl : M.length = L.length) (hE : CrP E gap) (hk : Kept (fun b => b = g) w w') : PuAns w g L E gap (.returned (.bool true)) w' :=
  ⟨by rw [decide_eq_true hE], ⟨M, ho, hl, fun _ => hM⟩, hk⟩
theorem puAns_no {w w' : World} {g : Nat} {L E M : List CraneT} {gap : Int} (ho : OwnV w' g (recCells 3 eCrane M)) (hl : M.length = L.length) (hE : ¬ CrP E gap) (hk : Kept (fun b => b = g) w w') : PuAns w g L E gap (.returned (.bool false)) w' :=
  ⟨by rw [decide_eq_false hE], ⟨M, ho, hl, fun h => absurd h hE⟩, hk⟩
theorem crG_small {c : CraneT} (h : CrG c) : 0 ≤ c.1 ∧ c.1 ≤ 1000 := by unfold CrG at h; omega

set_option maxRecDepth 100000 in
set_option maxHeartbeats 8000000 in
theorem push_any (g cap i : Nat) (L : List CraneT) (gap t : Int) (w : World) (h : OwnV w g (recCells 3 eCrane L)) (hz : mvF L gap (i : Int) t = 0) :
    Calls Try.prog 71 #[.slice (some ⟨g, 0, none⟩) L.length cap, .int .i64 gap, vMove (i : Int) t] w (PuAns w g L (psE L gap i t) gap) := by
  obtain ⟨⟨hcp, -, hil⟩, ht⟩ := mvF_zero.1 hz
  rw [Int.toNat_natCast] at ht
  clear hz
  have hi : i < L.length := by omega
  have hl8 := hcp.1
  have hgp := hcp.2.1
  have hx0 := crG_small (hcp.2.2 i hi).1
  have ht0 : 0 ≤ t ∧ t ≤ 1000 := by have := (hcp.2.2 i hi).1; unfold CrG at this; omega
  have A := Below.alloc1 w (.cells #[.int .i64 (i : Int), .int .i64 t] 42)
  have HK := hide (kept_of_below (T := fun b => b = g) A)
  have HO := hide (ownV_alloc w #[.int .i64 (i : Int), .int .i64 t] 42)
  have hgw := h.lt
  have hng : ¬ w.heap.size = g := by omega
  have HG := hide (h.step A)
  have HCP := hide hcp
  have HT := hide ht
  clear h hcp ht
  obtain ⟨W0, eW⟩ : ∃ W, W = w.alloc (.cells #[.int .i64 (i : Int), .int .i64 t] 42) := ⟨_, rfl⟩
  rw [← eW] at HK HO HG
  obtain ⟨gb, egb⟩ : ∃ b, b = w.heap.size := ⟨_, rfl⟩
  rw [← egb] at HO hng
  have c0 := (unhide HO).cell (i := 0) rfl
  have c1 := (unhide HO).cell (i := 1) rfl
  obtain ⟨k0, -, -⟩ := crAt (unhide HG) hi
  have hps : Hid (t ≠ (cr L i).1 → (psS L i t = 1 ∨ psS L i t = -1) ∧ cmpI t (cr L i).1 = psS L i t ∧ 0 < psS L i t * (t - (cr L i).1)) := psS_side
  have hsame : Hid (t = (cr L i).1 → psE L gap i t = mvS L i t ∧ mvS L i t = L ∧ cmpI t (cr L i).1 = 0) := fun h => ⟨by unfold psE; rw [if_pos h], mvS_same hi h, by unfold cmpI; rw [if_neg (by omega), if_neg (by omega)]⟩
  have hdiff : Hid (t ≠ (cr L i).1 → psE L gap i t = shL (psS L i t) L gap i t (pN (psS L i t) i L.length)) := fun h => by unfold psE; rw [if_neg h]
  obtain ⟨x0, ex0⟩ : ∃ x, x = (cr L i).1 := ⟨_, rfl⟩
  rw [← ex0] at k0 hps hsame hdiff hx0
  have HX0 := hide ex0
  clear ex0
  have Q1 : Hid (∀ V, Calls Try.prog 84 #[.int .i64 t, .int .i64 x0] V fun e w' => e = .returned (.int .i64 (cmpI t x0)) ∧ w' = V) := fun V => (cmpInt_any _ _ V).mono fun e w' ⟨h1, h2⟩ => ⟨h1, h2.symm⟩
  generalize hS : cmpI t x0 = S at Q1 hps hsame
  have hili : (i : Int) < (L.length : Int) := by omega
  unfold vMove
  go_enter Try.func71, Try.ntmps71
  go_upto_region 1 with (fail)
  rw [← eW, ← egb]
  clear eW egb
  refine wp_region_quiet_lit (by kernel_rfl) (by kernel_rfl) ?_
  repeat (go_big_quiet_step (fail))
  go_big_quiet_want
  go_big_quiet_op
  go_big_quiet_call (exact Calls.quiet_of_same (unhide Q1 _))
  repeat (go_big_quiet_step (fail))
  refine wpQuiet_nil ?_
  intro w1 hw'
  obtain ⟨nq, hw''⟩ := hw'
  have hb : Below W0.heap.size W0 w1 := by rw [hw'']; exact below_drewN (Below.refl _ _) nq
  clear hw'' k0 c0 c1 Q1
  replace HK := hide ((unhide HK).trans (kept_of_below hb))
  replace HO := hide ((unhide HO).step hb)
  replace HG := hide ((unhide HG).step hb)
  clear hb
  have c0 := (unhide HO).cell (i := 0) rfl
  have c1 := (unhide HO).cell (i := 1) rfl
  obtain ⟨k0, -, -⟩ := crAt (unhide HG) hi
  have kf := (unhide HG).frozen
  have HG2 := hide (cr_store (unhide HG) hi t)
  have HK2 := hide ((unhide HK).setCell (T := fun b => b = g) (p := ⟨g, i * 3, none⟩) rfl (.int .i64 t))
  have HO2 := hide ((unhide HO).other (a := ⟨g, i * 3, none⟩) hng (.int .i64 t))
  clear HG HK
  by_cases htx : t = x0
  · obtain ⟨e1, e2, e3⟩ := unhide hsame htx
    have HE1 := hide e1
    have HE2 := hide e2
    subst e3
    clear e1 e2 hps hsame hdiff hS htx
    go_wp2
    go_ret
    refine puAns_yes (unhide HG2) (unhide HE1).symm (mvS_len _ _ _) ?_ (unhide HK2)
    rw [unhide HE1, unhide HE2]
    exact unhide HCP
  obtain ⟨hs, e3, hst⟩ := unhide hps htx
  have HE := hide (unhide hdiff htx)
  clear hps hsame hdiff
  rw [e3] at hS
  rw [e3]
  clear hS e3 htx
  generalize psS L i t = s at *
  have HS := hide hs
  rw [unhide HX0] at hst
  have HST := hide hst
  have hse : (s == 0) = false := by simp; omega
  have hsb : -1 ≤ s ∧ s ≤ 1 := by omega
  have q1 : IntKind.i64.wrap ((i : Int) + s) = (i : Int) + s := by rw [IntKind.wrap_i64]; omega
  have HP0 := hide (Psh.start (s := s) hi (unhide HCP) (unhide HT))
  have HG3 : Hid (OwnV (w1.setCell ⟨g, i * 3, none⟩ (.int .i64 t)) g (recCells 3 eCrane (shL s L gap i t 0))) := unhide HG2
  obtain ⟨sg, esg⟩ : ∃ x, x = s * gap := ⟨_, rfl⟩
  have hsg : -20 ≤ sg ∧ sg ≤ 20 := by rcases hs with rfl | rfl <;> omega
  have q2 : IntKind.i64.wrap (s * gap) = sg := by rw [← esg, IntKind.wrap_i64]; omega
  have HSG := hide esg
  have HZ0 : Hid ((i : Int) + s = (i : Int) + s * (((0 : Nat) : Int) + 1)) := by show _ = _; rcases hs with rfl | rfl <;> omega
  have q5 : IntKind.i64.wrap ((L.length : Int) - 1) = (L.length : Int) - 1 := by rw [IntKind.wrap_i64]; omega
  clear hst esg hs hx0 ht0 HX0 HT HG2 HO
  go_wp2
  clear k0 kf c0 c1 q1
  go_loopg [8] (pN s i L.length) (fun gg zv wr => ∃ (k : Nat) (z : Int), k ≤ pN s i L.length ∧ gg = pN s i L.length - k ∧ zv = .int .i64 z ∧ Hid (z = (i : Int) + s * ((k : Int) + 1)) ∧ Hid (OwnV wr g (recCells 3 eCrane (shL s L gap i t k))) ∧ Hid (Kept (fun b => b = g) w wr) ∧ Hid (Psh s L gap i t k))
  case atStart => exact ⟨0, _, Nat.zero_le _, rfl, rfl, HZ0, HG3, HK2, HP0⟩
  case round =>
    clear HZ0 HG3 HK2 HP0 HO2
    obtain ⟨k, z, hk, rfl, rfl, HZ, HG, HK, HP⟩ := hrel
    have hs := unhide HS
    have Q2 := hide fun V => within_any z 0 ((L.length : Int) - 1) V
    have HB := hide (pN_in hs hi hk)
    rw [← unhide HZ] at HB
    generalize inB z 0 ((L.length : Int) - 1) = b2 at Q2 HB
    clear hs
    go_wp2_with fail
    refine (unhide Q2 _).mono ?_
    rintro e w9 ⟨rfl, h9⟩
    have h8 := h9.symm
    subst h8
    clear h9 Q2
    cases b2 with
    | false =>
      have hkk : ¬ (k + 1 ≤ pN s i L.length) := of_decide_eq_false (unhide HB).symm
      have ek : k = pN s i L.length := by omega
      have HD := hide ((unhide HP).done (unhide HS) hi (unhide HCP) (unhide HST) hk (fun h => absurd h hkk))
      have HEE : Hid (shL s L gap i t k = psE L gap i t) := by show _ = _; rw [unhide HE, ← ek]
      clear HB HP hkk ek
      go_wp2
      go_ret
      exact puAns_yes (unhide HG) (unhide HEE) (shL_len _ _ _ _ _ _) (unhide HEE ▸ unhide HD) (unhide HK)
    | true =>
    have hk1 : k + 1 ≤ pN s i L.length := of_decide_eq_true (unhide HB).symm
    clear HB
    obtain ⟨p, ep⟩ : ∃ p, p = pI s i k := ⟨_, rfl⟩
    obtain ⟨q, eq⟩ : ∃ q, q = pI s i (k + 1) := ⟨_, rfl⟩
    have hp := pI_lt (L := L) (a := i) (unhide HS) hi (show k ≤ pN s i L.length by omega)
    have hq := pI_lt (L := L) (a := i) (unhide HS) hi hk1
    rw [← ep] at hp
    rw [← eq] at hq
    have hzq : z = (q : Int) := by rw [unhide HZ, hq.2]; push_cast; rfl
    subst hzq
    have hl := shL_len s L gap i t k
    have hpl := hp.1
    have hql := hq.1
    have hpq : ¬ p = q := fun h => by
      have h1 := hp.2
      have h2 := hq.2
      rw [h, h2] at h1
      rcases unhide HS with e | e <;> rw [e] at h1 <;> push_cast at h1 <;> omega
    have q6b : (q : Int) - s = p := by rw [hq.2, hp.2]; push_cast; rcases unhide HS with e | e <;> rw [e] <;> omega
    have q6 : IntKind.i64.wrap ((q : Int) - s) = (p : Int) := by rw [q6b, IntKind.wrap_i64]; omega
    have hpi : (p : Int) < L.length := by omega
    have hqi : (q : Int) < L.length := by omega
    have hoq : cr (shL s L gap i t k) q = cr L q := shL_out (unhide HS) hi k (by omega) q hql (fun j hj he => by rw [eq] at he; have := pI_inj (unhide HS) hi hk1 (by omega) he; omega)
    have HOQ := hide hoq
    obtain ⟨M, eM⟩ : ∃ M, M = shL s L gap i t k := ⟨_, rfl⟩
    have HGk := (unhide HP).good k (Nat.le_refl _)
    rw [← eM, ← ep] at HGk
    have hyb := crG_small HGk
    have hyq : 0 ≤ (cr M q).1 ∧ (cr M q).1 ≤ 1000 := by rw [eM, hoq]; exact crG_small ((unhide HCP).2.2 q hql).1
    rw [← eM] at HG hl
    obtain ⟨m0, -, -⟩ := crAt (unhide HG) (i := p) (by omega)
    obtain ⟨n0, n1, n2⟩ := crAt (unhide HG) (i := q) (by omega)
    have HEND := hide (fun (hn' : s * ((cr M p).1 + s * gap - (cr M q).1) ≤ 0) => have hn := Int.not_lt.2 hn'; (⟨(unhide HP).done (unhide HS) hi (unhide HCP) (unhide HST) hk (fun _ => by rw [← ep, ← eq, ← eM]; exact hn), shL_stop (unhide HS) hi (unhide HCP) hk1 (by rw [← ep, ← eq, ← eM]; exact hn) (pN s i L.length - k) (by omega)⟩ : CrP (shL s L gap i t k) gap ∧ shL s L gap i t (k + (pN s i L.length - k)) = shL s L gap i t k))
    have HNX := hide (fun (hn : 0 < s * ((cr M p).1 + s * gap - (cr M q).1)) (hg : CrG ((cr M p).1 + s * gap, (cr M q).2)) => (unhide HP).next (unhide HS) hi hk1 (by rw [← ep, ← eq, ← eM]; exact hn) (by rw [← ep, ← eq, ← eM]; exact hg))
    have HBD := hide (fun (hn : 0 < s * ((cr M p).1 + s * gap - (cr M q).1)) (hg : ¬ CrG ((cr M p).1 + s * gap, (cr M q).2)) => push_bad (L := L) (gap := gap) (t := t) (unhide HS) hi hk1 (by rw [← ep, ← eq, ← eM]; exact hn) (by rw [← ep, ← eq, ← eM]; exact hg))
    have HSH := hide (fun (hn : 0 < s * ((cr M p).1 + s * gap - (cr M q).1)) => (show shL s L gap i t (k + 1) = mvS M q ((cr M p).1 + s * gap) by simp only [shL]; rw [← eM, ← ep, ← eq, if_pos hn]; rfl))
    rw [← unhide HSG] at HEND HNX HBD HSH
    obtain ⟨nr, enr⟩ : ∃ x, x = (cr M p).1 + sg := ⟨_, rfl⟩
    have q7b : (cr M p).1 + sg = nr := enr.symm
    have q7 : IntKind.i64.wrap ((cr M p).1 + sg) = nr := by rw [← enr, IntKind.wrap_i64]; omega
    rw [← enr] at HEND HNX HBD HSH
    have HLE := hide hl
    have HME := hide eM
    clear enr hp hq ep eq HGk hyb hoq eM hl
    generalize (cr M p).1 = yp at *
    have HCR : Hid (cr M q = ((cr M q).1, (cr M q).2.1, (cr M q).2.2)) := rfl
    obtain ⟨yq, eyq⟩ : ∃ x, x = (cr M q).1 := ⟨_, rfl⟩
    obtain ⟨lq, elq⟩ : ∃ x, x = (cr M q).2.1 := ⟨_, rfl⟩
    obtain ⟨hq2, ehq⟩ : ∃ x, x = (cr M q).2.2 := ⟨_, rfl⟩
    have e2 : (cr M q).2 = (lq, hq2) := by rw [elq, ehq]
    rw [e2] at HNX HBD
    rw [← eyq] at n0 HEND HNX HBD HSH hyq
    rw [← elq] at n1
    rw [← ehq] at n2
    clear HCR eyq elq ehq e2
    have Q3 : Hid (∀ V, Calls Try.prog 84 #[.int .i64 nr, .int .i64 yq] V fun e w' => e = .returned (.int .i64 (cmpI nr yq)) ∧ w' = V) := fun V => (cmpInt_any _ _ V).mono fun e w' ⟨h1, h2⟩ => ⟨h1, h2.symm⟩
    have HCM := hide (cmp_side (s := s) (x := nr) (y := yq) (unhide HS))
    generalize cmpI nr yq = cz at Q3 HCM
    clear q6b q7b
    go_wp2_with fail
    refine (unhide Q3 _).mono ?_
    rintro e w9 ⟨rfl, h9⟩
    have h8 := h9.symm
    subst h8
    clear h9 Q3
    by_cases hcz : cz = s
    case neg =>
      have d1 : (cz != s) = true := by simpa using hcz
      obtain ⟨hd, he⟩ := unhide HEND (Int.not_lt.1 fun h => hcz ((unhide HCM).2 h))
      have HD := hide hd
      have HEE : Hid (M = psE L gap i t) := by show _ = _; rw [unhide HME, unhide HE, ← he]; congr 1; omega
      clear HEND HNX HBD HSH HP hd he HCM hcz
      go_wp2
      go_ret
      refine puAns_yes (unhide HG) (unhide HEE) (unhide HLE) ?_ (unhide HK)
      rw [← unhide HEE, unhide HME]
      exact unhide HD
    case pos =>
    have hn := (unhide HCM).1 hcz
    have HN := hide hn
    subst hcz
    have d1 : (cz != cz) = false := by simp
    clear HEND hn HCM
    have kf := (unhide HG).frozen
    have HG2 := hide (cr_store (unhide HG) (i := q) (by have := unhide HLE; omega) nr)
    have HK2 := hide ((unhide HK).setCell (T := fun b => b = g) (p := ⟨g, q * 3, none⟩) rfl (.int .i64 nr))
    rw [← unhide HSH (unhide HN)] at HG2
    have Q4 := hide fun V => craneOk_any nr lq hq2 V
    have HYS : Hid (decide (CrG (nr, lq, hq2)) = true → Psh cz L gap i t (k + 1)) := fun h => unhide HNX (unhide HN) (of_decide_eq_true h)
    have HNO : Hid (decide (CrG (nr, lq, hq2)) = false → ¬ CrP (shL cz L gap i t (pN cz i L.length)) gap) := fun h => unhide HBD (unhide HN) (of_decide_eq_false h)
    generalize decide (CrG (nr, lq, hq2)) = b4 at Q4 HYS HNO
    unfold vCrane at Q4
    have HZN : Hid ((q : Int) + cz = (i : Int) + cz * (((k + 1 : Nat) : Int) + 1)) := by
      show _ = _
      rw [unhide HZ]
      push_cast
      rcases unhide HS with e | e <;> rw [e] <;> omega
    clear HG HK HNX HBD HSH HP HZ m0
    go_wp2_with fail
    refine (unhide Q4 _).mono ?_
    rintro e w4 ⟨rfl, hb⟩
    replace HG2 := hide ((unhide HG2).step hb)
    replace HK2 := hide ((unhide HK2).trans (kept_of_below hb))
    clear hb Q4 n0 n1 n2 kf
    cases b4 with
    | false =>
      have HF := hide (unhide HNO (by first | rfl | trivial))
      clear HNO HYS
      go_wp2
      go_ret
      refine puAns_no (unhide HG2) (shL_len _ _ _ _ _ _) ?_ (unhide HK2)
      rw [unhide HE]
      exact unhide HF
    | true =>
      have HY := hide (unhide HYS (by first | rfl | trivial))
      clear HNO HYS
      go_wp2
      go_roundg (pN cz i L.length - (k + 1))
      case measure => omega
      case rel => exact ⟨k + 1, _, hk1, rfl, rfl, HZN, HG2, HK2, HY⟩

end Go.Proofs.Ytogoknldhimgfaa
