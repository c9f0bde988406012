/- Contracts of tallyOf, tally.add and eachStretch. Written by wip/mkly.py. -/
import Derived.Test.YticminoejikdfaaLyS
import Derived.Test.YticminoejikdfaaKept
import Derived.FnLit
namespace Go.Proofs.Yticminoejikdfaa
open Go.RowKit

abbrev cTl (q : I4) : List Value := [.int .i64 q.1, .int .i64 q.2.1, .int .i64 q.2.2.1, .int .i64 q.2.2.2]
abbrev addF (g : Nat) : Value := .func (.func 46) #[.pointer (some ⟨g, 0, none⟩)] #[]

set_option maxHeartbeats 400000 in
theorem tallyOf_any (n a d s : Int) (w : World) :
    Calls Try.prog 44 #[vCh n a d s] w fun e w' => e = .returned (.pointer (some ⟨w.heap.size + 1, 0, none⟩)) ∧ OwnV w' (w.heap.size + 1) (cTl (a, 0, 0, -1)) ∧ Below w.heap.size w w' := by
  have HO := hide (ownV_alloc (w.alloc (.cells #[.int .i64 n, .int .i64 a, .int .i64 d, .int .i64 s] 25)) #[.int .i64 a, .int .i64 0, .int .i64 0, .int .i64 (-1)] 75)
  rw [World.size_alloc] at HO
  unfold vCh
  go_enter Try.func44, Try.ntmps44
  go_wp2
  go_ret
  exact ⟨rfl, unhide HO, below_alloc (Below.alloc1 _ _) _⟩

theorem tl_set {w : World} {g : Nat} {a u o l : Int} (h : OwnV w g (cTl (a, u, o, l))) :
    (∀ x, OwnV (w.setCell ⟨g, 0, none⟩ (.int .i64 x)) g (cTl (x, u, o, l))) ∧ (∀ x, OwnV (w.setCell ⟨g, 1, none⟩ (.int .i64 x)) g (cTl (a, x, o, l))) ∧ (∀ x, OwnV (w.setCell ⟨g, 2, none⟩ (.int .i64 x)) g (cTl (a, u, x, l))) ∧ (∀ x, OwnV (w.setCell ⟨g, 3, none⟩ (.int .i64 x)) g (cTl (a, u, o, x))) :=
  ⟨fun x => h.set 0 _ (by simp), fun x => h.set 1 _ (by simp), fun x => h.set 2 _ (by simp), fun x => h.set 3 _ (by simp)⟩

set_option maxRecDepth 10000 in
set_option maxHeartbeats 2000000 in
theorem tallyaddO_any (gt : Nat) (f t : Int) (q : I4) (w : World) (h : OwnV w gt (cTl q)) (ha : 0 ≤ q.1 ∧ q.1 ≤ 100000) (hu : 0 ≤ q.2.1 ∧ q.2.1 ≤ 100000) (ho : 0 ≤ q.2.2.1 ∧ q.2.2.1 ≤ 100000000000) (hf : 0 ≤ f) (hft : f ≤ t) (ht : t ≤ 100000000) :
    Calls Try.prog 46 #[.pointer (some ⟨gt, 0, none⟩), .int .i64 1, .int .i64 f, .int .i64 t] w fun e w' => e = .returned (.tuple #[]) ∧ OwnV w' gt (cTl (adO f t q)) ∧ Kept (fun b => b = gt) w w' := by
  obtain ⟨a, u, o, l⟩ := q
  dsimp only at ha hu ho
  obtain ⟨a0, a1⟩ := ha
  obtain ⟨u0, u1⟩ := hu
  obtain ⟨o0, o1⟩ := ho
  have HO := hide h
  clear h
  have ho0 := (unhide HO).cell (i := 0) rfl
  have hof0 := (unhide HO).frozen 0
  have ho1 := (unhide HO).cell (i := 1) rfl
  have hof1 := (unhide HO).frozen 1
  have ho2 := (unhide HO).cell (i := 2) rfl
  have hof2 := (unhide HO).frozen 2
  have ho3 := (unhide HO).cell (i := 3) rfl
  have hof3 := (unhide HO).frozen 3
  dsimp only at ho0 ho1 ho2 ho3
  have hk : ((1 : Int) == 0) = false := rfl
  by_cases h1 : 0 < a
  · have d1 : decide (0 < a) = true := by simpa using h1
    have HS := hide (unhide HO)
    have HK := hide (Kept.refl (fun b => b = gt) w)
    have EV : Hid (adO f t (a, u, o, l) = (a, u, o, l)) := by show _ = _; unfold adO; rw [if_pos (by left; exact h1)]
    go_enter Try.func46, Try.ntmps46
    go_wp2
    (first | go_end0 | refine bodyPost_ret (v := .tuple #[]) (by simp [results, Try.results46, go_sem]) rfl ?_)
    exact ⟨rfl, by rw [unhide EV]; exact unhide HS, unhide HK⟩
  have d1 : decide (0 < a) = false := by simpa using h1
  by_cases h2 : f = t
  · have e2 : (f == t) = true := by simpa using h2
    have HS := hide (unhide HO)
    have HK := hide (Kept.refl (fun b => b = gt) w)
    have EV : Hid (adO f t (a, u, o, l) = (a, u, o, l)) := by show _ = _; unfold adO; rw [if_pos (by right; exact h2)]
    clear h2
    go_enter Try.func46, Try.ntmps46
    go_wp2
    (first | go_end0 | refine bodyPost_ret (v := .tuple #[]) (by simp [results, Try.results46, go_sem]) rfl ?_)
    exact ⟨rfl, by rw [unhide EV]; exact unhide HS, unhide HK⟩
  have e2 : (f == t) = false := by simpa using h2
  have w1 : IntKind.i64.wrap (t - f) = t - f := by rw [IntKind.wrap_i64]; omega
  have w2 : IntKind.i64.wrap (o + (t - f)) = o + (t - f) := by rw [IntKind.wrap_i64]; omega
  by_cases h3 : o = 0
  · have e3 : (o == 0) = true := by simpa using h3
    have HS := hide ((tl_set ((tl_set (unhide HO)).2.2.2 f)).2.2.1 (o + (t - f)))
    have HK := hide (((Kept.refl (fun b => b = gt) w).setCell (p := ⟨gt, 3, none⟩) rfl (.int .i64 f)).setCell (p := ⟨gt, 2, none⟩) rfl (.int .i64 (o + (t - f))))
    have EV : Hid (adO f t (a, u, o, l) = (a, u, o + (t - f), f)) := by show _ = _; unfold adO; rw [if_neg (by rintro (h | h); exact h1 h; exact h2 h)]; show (a, u, o + (t - f), if o = 0 then f else l) = _; rw [if_pos h3]
    clear h3
    go_enter Try.func46, Try.ntmps46
    go_wp2
    (first | go_end0 | refine bodyPost_ret (v := .tuple #[]) (by simp [results, Try.results46, go_sem]) rfl ?_)
    exact ⟨rfl, by rw [unhide EV]; exact unhide HS, unhide HK⟩
  have e3 : (o == 0) = false := by simpa using h3
  have HS := hide ((tl_set (unhide HO)).2.2.1 (o + (t - f)))
  have HK := hide ((Kept.refl (fun b => b = gt) w).setCell (p := ⟨gt, 2, none⟩) rfl (.int .i64 (o + (t - f))))
  have EV : Hid (adO f t (a, u, o, l) = (a, u, o + (t - f), l)) := by show _ = _; unfold adO; rw [if_neg (by rintro (h | h); exact h1 h; exact h2 h)]; show (a, u, o + (t - f), if o = 0 then f else l) = _; rw [if_neg h3]
  go_enter Try.func46, Try.ntmps46
  go_wp2
  (first | go_end0 | refine bodyPost_ret (v := .tuple #[]) (by simp [results, Try.results46, go_sem]) rfl ?_)
  exact ⟨rfl, by rw [unhide EV]; exact unhide HS, unhide HK⟩

set_option maxRecDepth 10000 in
set_option maxHeartbeats 2000000 in
theorem tallyaddF_any (gt : Nat) (f t : Int) (q : I4) (w : World) (h : OwnV w gt (cTl q)) (ha : 0 ≤ q.1 ∧ q.1 ≤ 100000) (hu : 0 ≤ q.2.1 ∧ q.2.1 ≤ 100000) (ho : 0 ≤ q.2.2.1 ∧ q.2.2.1 ≤ 100000000000) (hf : 0 ≤ f) (hft : f ≤ t) (ht : t ≤ 100000000) :
    Calls Try.prog 46 #[.pointer (some ⟨gt, 0, none⟩), .int .i64 0, .int .i64 f, .int .i64 t] w fun e w' => e = .returned (.tuple #[]) ∧ OwnV w' gt (cTl (adF f t q)) ∧ Kept (fun b => b = gt) w w' := by
  obtain ⟨a, u, o, l⟩ := q
  dsimp only at ha hu ho
  obtain ⟨a0, a1⟩ := ha
  obtain ⟨u0, u1⟩ := hu
  obtain ⟨o0, o1⟩ := ho
  have HO := hide h
  clear h
  have ho0 := (unhide HO).cell (i := 0) rfl
  have hof0 := (unhide HO).frozen 0
  have ho1 := (unhide HO).cell (i := 1) rfl
  have hof1 := (unhide HO).frozen 1
  have ho2 := (unhide HO).cell (i := 2) rfl
  have hof2 := (unhide HO).frozen 2
  have ho3 := (unhide HO).cell (i := 3) rfl
  have hof3 := (unhide HO).frozen 3
  dsimp only at ho0 ho1 ho2 ho3
  have hk : ((0 : Int) == 0) = true := rfl
  have w1 : IntKind.i64.wrap (t - f) = t - f := by rw [IntKind.wrap_i64]; omega
  by_cases hmn : t - f < a
  · have EF : Hid (adF f t (a, u, o, l) = adO (f + (t - f)) t (a - (t - f), u + (t - f), o, l)) := by show _ = _; unfold adF; rw [show min a (t - f) = t - f by omega]
    have w3 : IntKind.i64.wrap (a - (t - f)) = a - (t - f) := by rw [IntKind.wrap_i64]; omega
    have w4 : IntKind.i64.wrap (u + (t - f)) = u + (t - f) := by rw [IntKind.wrap_i64]; omega
    have h1 : 0 < a - (t - f) := by omega
    have d1 : decide (0 < a - (t - f)) = true := by simpa using h1
    have HS := hide ((tl_set ((tl_set (unhide HO)).1 (a - (t - f)))).2.1 (u + (t - f)))
    have HK := hide (((Kept.refl (fun b => b = gt) w).setCell (p := ⟨gt, 0, none⟩) rfl (.int .i64 (a - (t - f)))).setCell (p := ⟨gt, 1, none⟩) rfl (.int .i64 (u + (t - f))))
    have EV : Hid (adF f t (a, u, o, l) = (a - (t - f), u + (t - f), o, l)) := by show _ = _; rw [unhide EF]; unfold adO; rw [if_pos (by left; exact h1)]
    go_enter Try.func46, Try.ntmps46
    go_wp2
    (first | go_end0 | refine bodyPost_ret (v := .tuple #[]) (by simp [results, Try.results46, go_sem]) rfl ?_)
    exact ⟨rfl, by rw [unhide EV]; exact unhide HS, unhide HK⟩
  have EF : Hid (adF f t (a, u, o, l) = adO (f + a) t (0, u + a, o, l)) := by show _ = _; unfold adF; rw [show min a (t - f) = a by omega, show a - a = 0 by omega]
  have w4 : IntKind.i64.wrap (u + a) = u + a := by rw [IntKind.wrap_i64]; omega
  have w5 : IntKind.i64.wrap (f + a) = f + a := by rw [IntKind.wrap_i64]; omega
  by_cases h2 : f + a = t
  · have e2 : (f + a == t) = true := by simpa using h2
    have HS := hide ((tl_set ((tl_set (unhide HO)).1 0)).2.1 (u + a))
    have HK := hide (((Kept.refl (fun b => b = gt) w).setCell (p := ⟨gt, 0, none⟩) rfl (.int .i64 0)).setCell (p := ⟨gt, 1, none⟩) rfl (.int .i64 (u + a)))
    have EV : Hid (adF f t (a, u, o, l) = (0, u + a, o, l)) := by show _ = _; rw [unhide EF]; unfold adO; rw [if_pos (by right; exact h2)]
    clear h2
    go_enter Try.func46, Try.ntmps46
    go_wp2
    (first | go_end0 | refine bodyPost_ret (v := .tuple #[]) (by simp [results, Try.results46, go_sem]) rfl ?_)
    exact ⟨rfl, by rw [unhide EV]; exact unhide HS, unhide HK⟩
  have e2 : (f + a == t) = false := by simpa using h2
  have w6 : IntKind.i64.wrap (t - (f + a)) = t - (f + a) := by rw [IntKind.wrap_i64]; omega
  have w7 : IntKind.i64.wrap (o + (t - (f + a))) = o + (t - (f + a)) := by rw [IntKind.wrap_i64]; omega
  by_cases h3 : o = 0
  · have e3 : (o == 0) = true := by simpa using h3
    have HS := hide ((tl_set ((tl_set ((tl_set ((tl_set (unhide HO)).1 0)).2.1 (u + a))).2.2.2 (f + a))).2.2.1 (o + (t - (f + a))))
    have HK := hide (((((Kept.refl (fun b => b = gt) w).setCell (p := ⟨gt, 0, none⟩) rfl (.int .i64 0)).setCell (p := ⟨gt, 1, none⟩) rfl (.int .i64 (u + a))).setCell (p := ⟨gt, 3, none⟩) rfl (.int .i64 (f + a))).setCell (p := ⟨gt, 2, none⟩) rfl (.int .i64 (o + (t - (f + a)))))
    have EV : Hid (adF f t (a, u, o, l) = (0, u + a, o + (t - (f + a)), f + a)) := by show _ = _; rw [unhide EF]; unfold adO; rw [if_neg (by rintro (h | h); exact absurd h (by show ¬ (0 : Int) < 0; omega); exact h2 h)]; show (0, u + a, o + (t - (f + a)), if o = 0 then f + a else l) = _; rw [if_pos h3]
    clear h3
    go_enter Try.func46, Try.ntmps46
    go_wp2
    (first | go_end0 | refine bodyPost_ret (v := .tuple #[]) (by simp [results, Try.results46, go_sem]) rfl ?_)
    exact ⟨rfl, by rw [unhide EV]; exact unhide HS, unhide HK⟩
  have e3 : (o == 0) = false := by simpa using h3
  have HS := hide ((tl_set ((tl_set ((tl_set (unhide HO)).1 0)).2.1 (u + a))).2.2.1 (o + (t - (f + a))))
  have HK := hide ((((Kept.refl (fun b => b = gt) w).setCell (p := ⟨gt, 0, none⟩) rfl (.int .i64 0)).setCell (p := ⟨gt, 1, none⟩) rfl (.int .i64 (u + a))).setCell (p := ⟨gt, 2, none⟩) rfl (.int .i64 (o + (t - (f + a)))))
  have EV : Hid (adF f t (a, u, o, l) = (0, u + a, o + (t - (f + a)), l)) := by show _ = _; rw [unhide EF]; unfold adO; rw [if_neg (by rintro (h | h); exact absurd h (by show ¬ (0 : Int) < 0; omega); exact h2 h)]; show (0, u + a, o + (t - (f + a)), if o = 0 then f + a else l) = _; rw [if_neg h3]
  go_enter Try.func46, Try.ntmps46
  go_wp2
  (first | go_end0 | refine bodyPost_ret (v := .tuple #[]) (by simp [results, Try.results46, go_sem]) rfl ?_)
  exact ⟨rfl, by rw [unhide EV]; exact unhide HS, unhide HK⟩


end Go.Proofs.Yticminoejikdfaa
