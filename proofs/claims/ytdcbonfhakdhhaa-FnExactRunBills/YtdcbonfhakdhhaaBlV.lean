/- Bills: the contract of the specification's l14Do. Written by wip/mkblv.py. -/
import Derived.Test.YtdcbonfhakdhhaaBlU
import Derived.Test.YtdcbonfhakdhhaaRgI
namespace Go.Proofs.Ytdcbonfhakdhhaa
open Go.RowKit

/-- What l14Do tells: the bill as it was, or as the op makes it, its originals in the same block or in a new one. -/
def DoS (x : BlT) (hb hc : Nat) (w : World) (r : Option BlT) (e : Ending) (w' : World) : Prop :=
  match r with
  | none => e = .returned (.tuple #[vBill x.1 x.2.1 x.2.2.1 x.2.2.2.1 (.slice (some ⟨hb, 0, none⟩) x.2.2.2.2.length hc), .bool false]) ∧ Below w.heap.size w w'
  | some y => ∃ hb' hc', e = .returned (.tuple #[vBill y.1 y.2.1 y.2.2.1 y.2.2.2.1 (.slice (some ⟨hb', 0, none⟩) y.2.2.2.2.length hc'), .bool true]) ∧ OwnV w' hb' (strs y.2.2.2.2) ∧ y.2.2.2.2.length ≤ hc' ∧ hc' ≤ maxLen ∧ (hb' = hb ∨ w.heap.size ≤ hb') ∧ Kept (fun b => b = hb) w w'
/-- What is held while it works. -/
structure D3 (w W : World) (xs os rs : List Value) (hb : Nat) (H : List ByteArray) : Prop where
  below : Below w.heap.size w W
  o1 : OwnV W w.heap.size xs
  o2 : OwnV W (w.heap.size + 1) os
  o3 : OwnV W (w.heap.size + 2) rs
  hl : OwnV W hb (strs H)
  lt : hb < w.heap.size
section
variable {w W W' : World} {xs os rs : List Value} {hb : Nat} {H : List ByteArray}
theorem d3_new (hO : OwnV w hb (strs H)) (a b c : Array Value) (t1 t2 t3 : TypeId) : D3 w (((w.alloc (.cells a t1)).alloc (.cells b t2)).alloc (.cells c t3)) a.toList b.toList c.toList hb H := by
  have h2 := ownV_alloc (w.alloc (.cells a t1)) b t2
  have h3 := ownV_alloc ((w.alloc (.cells a t1)).alloc (.cells b t2)) c t3
  simp only [World.size_alloc] at h2 h3
  have hb := Below.step (Below.step (Below.alloc1 w (.cells a t1)) (Below.alloc1 _ (.cells b t2))) (Below.alloc1 _ (.cells c t3))
  exact ⟨hb, ((ownV_alloc w a t1).alloc _).alloc _, h2.alloc _, h3, hO.step hb, hO.lt⟩
theorem D3.step (h : D3 w W xs os rs hb H) (hb' : Below W.heap.size W W') : D3 w W' xs os rs hb H := ⟨Below.step h.below hb', h.o1.step hb', h.o2.step hb', h.o3.step hb', h.hl.step hb', h.lt⟩
theorem D3.drewN (h : D3 w W xs os rs hb H) (n : Nat) : D3 w (W.drewN n) xs os rs hb H := h.step (below_drewN (Below.refl _ _) n)
theorem D3.put1 (h : D3 w W xs os rs hb H) (i : Nat) (u : Value) (hi : i < xs.length) : D3 w (W.setCell ⟨w.heap.size, i, none⟩ u) (xs.set i u) os rs hb H := by
  have hlt := h.lt
  exact ⟨h.below.setCell (p := ⟨w.heap.size, i, none⟩) (Nat.le_refl _) _, h.o1.set i u hi, farN h.o2 (by omega) _ _, farN h.o3 (by omega) _ _, farN h.hl (by omega) _ _, hlt⟩
theorem D3.fin (h : D3 w W xs os rs hb H) (hr : rs.length = 5) (v0 v1 v2 v3 v4 : Value) :
    OwnV (((((W.setCell ⟨w.heap.size + 2, 0, none⟩ v0).setCell ⟨w.heap.size + 2, 1, none⟩ v1).setCell ⟨w.heap.size + 2, 2, none⟩ v2).setCell ⟨w.heap.size + 2, 3, none⟩ v3).setCell ⟨w.heap.size + 2, 4, none⟩ v4) (w.heap.size + 2) [v0, v1, v2, v3, v4] ∧ Below w.heap.size w (((((W.setCell ⟨w.heap.size + 2, 0, none⟩ v0).setCell ⟨w.heap.size + 2, 1, none⟩ v1).setCell ⟨w.heap.size + 2, 2, none⟩ v2).setCell ⟨w.heap.size + 2, 3, none⟩ v3).setCell ⟨w.heap.size + 2, 4, none⟩ v4) ∧ OwnV (((((W.setCell ⟨w.heap.size + 2, 0, none⟩ v0).setCell ⟨w.heap.size + 2, 1, none⟩ v1).setCell ⟨w.heap.size + 2, 2, none⟩ v2).setCell ⟨w.heap.size + 2, 3, none⟩ v3).setCell ⟨w.heap.size + 2, 4, none⟩ v4) hb (strs H) := by
  have hlt := h.lt
  obtain ⟨r0, r1, r2, r3, r4, rfl⟩ : ∃ a b c d e, rs = [a, b, c, d, e] := by
    match rs, hr with
    | [a, b, c, d, e], _ => exact ⟨a, b, c, d, e, rfl⟩
  refine ⟨((((h.o3.set 0 v0 (by simp)).set 1 v1 (by simp)).set 2 v2 (by simp)).set 3 v3 (by simp)).set 4 v4 (by simp), ((((h.below.setCell (p := ⟨w.heap.size + 2, 0, none⟩) (by show w.heap.size ≤ w.heap.size + 2; omega) _).setCell (p := ⟨w.heap.size + 2, 1, none⟩) (by show w.heap.size ≤ w.heap.size + 2; omega) _).setCell (p := ⟨w.heap.size + 2, 2, none⟩) (by show w.heap.size ≤ w.heap.size + 2; omega) _).setCell (p := ⟨w.heap.size + 2, 3, none⟩) (by show w.heap.size ≤ w.heap.size + 2; omega) _).setCell (p := ⟨w.heap.size + 2, 4, none⟩) (by show w.heap.size ≤ w.heap.size + 2; omega) _, farN (farN (farN (farN (farN h.hl (by omega) _ _) (by omega) _ _) (by omega) _ _) (by omega) _ _) (by omega) _ _⟩
end
theorem D3.hand {w W : World} {xs os rs : List Value} {hb : Nat} {H : List ByteArray} (h : D3 w W xs os rs hb H) (hr : rs.length = 5) (i : Nat) (s : ByteArray) (hi : i < H.length) (v0 v1 v2 v3 v4 : Value) :
    OwnV ((((((W.setCell ⟨hb, i, none⟩ (.string s)).setCell ⟨w.heap.size + 2, 0, none⟩ v0).setCell ⟨w.heap.size + 2, 1, none⟩ v1).setCell ⟨w.heap.size + 2, 2, none⟩ v2).setCell ⟨w.heap.size + 2, 3, none⟩ v3).setCell ⟨w.heap.size + 2, 4, none⟩ v4) (w.heap.size + 2) [v0, v1, v2, v3, v4] ∧ Kept (fun b => b = hb) w ((((((W.setCell ⟨hb, i, none⟩ (.string s)).setCell ⟨w.heap.size + 2, 0, none⟩ v0).setCell ⟨w.heap.size + 2, 1, none⟩ v1).setCell ⟨w.heap.size + 2, 2, none⟩ v2).setCell ⟨w.heap.size + 2, 3, none⟩ v3).setCell ⟨w.heap.size + 2, 4, none⟩ v4) ∧ OwnV ((((((W.setCell ⟨hb, i, none⟩ (.string s)).setCell ⟨w.heap.size + 2, 0, none⟩ v0).setCell ⟨w.heap.size + 2, 1, none⟩ v1).setCell ⟨w.heap.size + 2, 2, none⟩ v2).setCell ⟨w.heap.size + 2, 3, none⟩ v3).setCell ⟨w.heap.size + 2, 4, none⟩ v4) hb (strs (H.set i s)) := by
  have hlt := h.lt
  obtain ⟨r0, r1, r2, r3, r4, rfl⟩ : ∃ a b c d e, rs = [a, b, c, d, e] := by
    match rs, hr with
    | [a, b, c, d, e], _ => exact ⟨a, b, c, d, e, rfl⟩
  have o3 := farN h.o3 (show w.heap.size + 2 ≠ hb by omega) i (.string s)
  have hk : Kept (fun k => k = hb ∨ w.heap.size ≤ k) w (W.setCell ⟨hb, i, none⟩ (.string s)) := (kept_of_below h.below).setCell (p := ⟨hb, i, none⟩) (Or.inl rfl) _
  have hh := h.hl.set i (.string s) (by simpa [strs] using hi)
  rw [show (strs H).set i (.string s) = strs (H.set i s) from (List.map_set ..).symm] at hh
  refine ⟨((((o3.set 0 v0 (by simp)).set 1 v1 (by simp)).set 2 v2 (by simp)).set 3 v3 (by simp)).set 4 v4 (by simp), ?_, farN (farN (farN (farN (farN hh (by omega) _ _) (by omega) _ _) (by omega) _ _) (by omega) _ _) (by omega) _ _⟩
  refine Kept.mono (T := fun k => k = hb ∨ w.heap.size ≤ k) ?_ (fun k hk' h => h.elim (fun h => h) (fun h => by omega))
  exact ((((hk.setCell (p := ⟨w.heap.size + 2, 0, none⟩) (Or.inr (by show w.heap.size ≤ w.heap.size + 2; omega)) _).setCell (p := ⟨w.heap.size + 2, 1, none⟩) (Or.inr (by show w.heap.size ≤ w.heap.size + 2; omega)) _).setCell (p := ⟨w.heap.size + 2, 2, none⟩) (Or.inr (by show w.heap.size ≤ w.heap.size + 2; omega)) _).setCell (p := ⟨w.heap.size + 2, 3, none⟩) (Or.inr (by show w.heap.size ≤ w.heap.size + 2; omega)) _).setCell (p := ⟨w.heap.size + 2, 4, none⟩) (Or.inr (by show w.heap.size ≤ w.heap.size + 2; omega)) _
theorem far5 {W : World} {g n : Nat} {vs : List Value} (h : OwnV W g vs) (hne : g ≠ n) (v0 v1 v2 v3 v4 : Value) : OwnV (((((W.setCell ⟨n, 0, none⟩ v0).setCell ⟨n, 1, none⟩ v1).setCell ⟨n, 2, none⟩ v2).setCell ⟨n, 3, none⟩ v3).setCell ⟨n, 4, none⟩ v4) g vs := farN (farN (farN (farN (farN h hne _ _) hne _ _) hne _ _) hne _ _) hne _ _

set_option maxRecDepth 100000 in
set_option maxHeartbeats 8000000 in
theorem specDo2_any (xi : Int) (sh od : ByteArray) (hb hc : Nat) (H : List ByteArray) (id : Int) (who tt : ByteArray) (num : Int) (many : Int) (w : World) (hO : OwnV w hb (strs H)) (hl : H.length ≤ hc) (hm : hc ≤ maxLen) (hw : nameB who = true) :
    Calls Try.prog 42 #[vBill xi sh od (H.length : Int) (.slice (some ⟨hb, 0, none⟩) H.length hc), vBillOp 2 id who tt num many] w fun e w' => DoS (xi, sh, od, (H.length : Int), H) hb hc w (passV (xi, sh, od, (H.length : Int), H) (2, id, who, tt, num, many)) e w' := by
  obtain ⟨V1, eV1⟩ : ∃ V, V = ((w.alloc (.cells #[.int .i64 xi, .string sh, .string od, .int .i64 (H.length : Int), .slice (some ⟨hb, 0, none⟩) H.length hc] 40)).alloc (.cells #[.int .i64 2, .int .i64 id, .string who, .string tt, .int .i64 num, .int .i64 many] 34)).alloc (.cells #[.int .i64 0, .string ⟨#[]⟩, .string ⟨#[]⟩, .int .i64 0, .slice none 0 0] 40) := ⟨_, rfl⟩
  have hd := d3_new hO #[.int .i64 xi, .string sh, .string od, .int .i64 (H.length : Int), .slice (some ⟨hb, 0, none⟩) H.length hc] #[.int .i64 2, .int .i64 id, .string who, .string tt, .int .i64 num, .int .i64 many] #[.int .i64 0, .string ⟨#[]⟩, .string ⟨#[]⟩, .int .i64 0, .slice none 0 0] 40 34 40
  rw [← eV1] at hd
  have HD : Hid (D3 w V1 [.int .i64 xi, .string sh, .string od, .int .i64 (H.length : Int), .slice (some ⟨hb, 0, none⟩) H.length hc] [.int .i64 2, .int .i64 id, .string who, .string tt, .int .i64 num, .int .i64 many] [.int .i64 0, .string ⟨#[]⟩, .string ⟨#[]⟩, .int .i64 0, .slice none 0 0] hb H) := hd
  have QH := hide fun V (hV : OwnV V hb (strs H)) => specHolds_any xi sh od (H.length : Int) (some ⟨hb, 0, none⟩) hc H who V (hV.cIn hl hm)
  have hlt := hd.lt
  unfold maxLen at hm
  clear hd
  unfold vBill at QH
  unfold vBill vBillOp
  go_enter Try.func42, Try.ntmps42
  go_upto_region 1 with (fail)
  rw [← eV1]
  clear eV1
  have HNW := hide (name_some hw)
  have EQ : Hid (passV (xi, sh, od, (H.length : Int), H) (2, id, who, tt, num, many) = if (noB od && decide (0 < cnt H who)) || (!noB od && decide (od = who)) then some (xi, sh, tt, (H.length : Int), H) else none) := rfl
  clear hw
  have t1 := text_eq who od
  have t0 := no_list od
  have x0 := (unhide HD).o1.cell (i := 0) rfl
  have x1 := (unhide HD).o1.cell (i := 1) rfl
  have x2 := (unhide HD).o1.cell (i := 2) rfl
  have x3 := (unhide HD).o1.cell (i := 3) rfl
  have x4 := (unhide HD).o1.cell (i := 4) rfl
  have xf := (unhide HD).o1.frozen
  have o0 := (unhide HD).o2.cell (i := 0) rfl
  have o1 := (unhide HD).o2.cell (i := 1) rfl
  have o2 := (unhide HD).o2.cell (i := 2) rfl
  have o3 := (unhide HD).o2.cell (i := 3) rfl
  have o4 := (unhide HD).o2.cell (i := 4) rfl
  have o5 := (unhide HD).o2.cell (i := 5) rfl
  have r0 := (unhide HD).o3.cell (i := 0) rfl
  have r1 := (unhide HD).o3.cell (i := 1) rfl
  have r2 := (unhide HD).o3.cell (i := 2) rfl
  have r3 := (unhide HD).o3.cell (i := 3) rfl
  have r4 := (unhide HD).o3.cell (i := 4) rfl
  have rf := (unhide HD).o3.frozen
  by_cases hw : who = od
  · rw [decide_eq_true hw] at t1
    have EP : Hid (passV (xi, sh, od, (H.length : Int), H) (2, id, who, tt, num, many) = some (xi, sh, tt, (H.length : Int), H)) := by
      show _ = _
      rw [unhide EQ, ← hw, unhide HNW]; simp
    clear EQ HNW QH hw
    have HF := hide (((unhide HD).put1 2 (.string tt) (by simp)).fin rfl (.int .i64 xi) (.string sh) (.string tt) (.int .i64 (H.length : Int)) (.slice (some ⟨hb, 0, none⟩) H.length hc))
    go_wp2
    have k0 := (unhide HF).1.cell (i := 0) rfl
    have k1 := (unhide HF).1.cell (i := 1) rfl
    have k2 := (unhide HF).1.cell (i := 2) rfl
    have k3 := (unhide HF).1.cell (i := 3) rfl
    have k4 := (unhide HF).1.cell (i := 4) rfl
    refine bodyPost_ret (v := .tuple #[vBill xi sh tt (H.length : Int) (.slice (some ⟨hb, 0, none⟩) H.length hc), .bool true]) (by simp [results, Try.results42, go_sem, vBill, k0, k1, k2, k3, k4]) rfl ?_
    show DoS _ _ _ _ _ _ _
    rw [unhide EP]
    exact ⟨hb, hc, rfl, (unhide HF).2.2, hl, by unfold maxLen; exact hm, Or.inl rfl, kept_of_below (unhide HF).2.1⟩
  rw [decide_eq_false hw] at t1
  have hw' : ¬ od = who := fun e => hw e.symm
  cases hno : noB od with
  | false =>
    rw [hno] at t0
    have EP : Hid (passV (xi, sh, od, (H.length : Int), H) (2, id, who, tt, num, many) = none) := by
      show _ = _
      rw [unhide EQ, hno]; simp [hw']
    clear EQ HNW QH hw hw'
    have HF := hide ((unhide HD).fin rfl (.int .i64 xi) (.string sh) (.string od) (.int .i64 (H.length : Int)) (.slice (some ⟨hb, 0, none⟩) H.length hc))
    go_wp2
    have k0 := (unhide HF).1.cell (i := 0) rfl
    have k1 := (unhide HF).1.cell (i := 1) rfl
    have k2 := (unhide HF).1.cell (i := 2) rfl
    have k3 := (unhide HF).1.cell (i := 3) rfl
    have k4 := (unhide HF).1.cell (i := 4) rfl
    refine bodyPost_ret (v := .tuple #[vBill xi sh od (H.length : Int) (.slice (some ⟨hb, 0, none⟩) H.length hc), .bool false]) (by simp [results, Try.results42, go_sem, vBill, k0, k1, k2, k3, k4]) rfl ?_
    show DoS _ _ _ _ _ _ _
    rw [unhide EP]
    exact ⟨rfl, (unhide HF).2.1⟩
  | true =>
    rw [hno] at t0 EQ
    clear hno HNW hw hw'
    go_wp2_with fail
    refine (unhide QH _ (unhide HD).hl).mono ?_
    rintro e w2 ⟨rfl, hb2⟩
    replace HD := hide ((unhide HD).step hb2)
    clear hb2 QH
    clear x0 x1 x2 x3 x4 xf o0 o1 o2 o3 o4 o5 r0 r1 r2 r3 r4 rf
    have x0 := (unhide HD).o1.cell (i := 0) rfl
    have x1 := (unhide HD).o1.cell (i := 1) rfl
    have x2 := (unhide HD).o1.cell (i := 2) rfl
    have x3 := (unhide HD).o1.cell (i := 3) rfl
    have x4 := (unhide HD).o1.cell (i := 4) rfl
    have xf := (unhide HD).o1.frozen
    have o0 := (unhide HD).o2.cell (i := 0) rfl
    have o1 := (unhide HD).o2.cell (i := 1) rfl
    have o2 := (unhide HD).o2.cell (i := 2) rfl
    have o3 := (unhide HD).o2.cell (i := 3) rfl
    have o4 := (unhide HD).o2.cell (i := 4) rfl
    have o5 := (unhide HD).o2.cell (i := 5) rfl
    have r0 := (unhide HD).o3.cell (i := 0) rfl
    have r1 := (unhide HD).o3.cell (i := 1) rfl
    have r2 := (unhide HD).o3.cell (i := 2) rfl
    have r3 := (unhide HD).o3.cell (i := 3) rfl
    have r4 := (unhide HD).o3.cell (i := 4) rfl
    have rf := (unhide HD).o3.frozen
    generalize cnt H who = N at *
    by_cases hN : N = 0
    · have EP : Hid (passV (xi, sh, od, (H.length : Int), H) (2, id, who, tt, num, many) = none) := by
        show _ = _
        rw [unhide EQ, hN]; simp
      subst hN
      clear EQ
      have HF := hide ((unhide HD).fin rfl (.int .i64 xi) (.string sh) (.string od) (.int .i64 (H.length : Int)) (.slice (some ⟨hb, 0, none⟩) H.length hc))
      go_wp2
      have k0 := (unhide HF).1.cell (i := 0) rfl
      have k1 := (unhide HF).1.cell (i := 1) rfl
      have k2 := (unhide HF).1.cell (i := 2) rfl
      have k3 := (unhide HF).1.cell (i := 3) rfl
      have k4 := (unhide HF).1.cell (i := 4) rfl
      refine bodyPost_ret (v := .tuple #[vBill xi sh od (H.length : Int) (.slice (some ⟨hb, 0, none⟩) H.length hc), .bool false]) (by simp [results, Try.results42, go_sem, vBill, k0, k1, k2, k3, k4]) rfl ?_
      show DoS _ _ _ _ _ _ _
      rw [unhide EP]
      exact ⟨rfl, (unhide HF).2.1⟩
    · have EP : Hid (passV (xi, sh, od, (H.length : Int), H) (2, id, who, tt, num, many) = some (xi, sh, tt, (H.length : Int), H)) := by
        show _ = _
        rw [unhide EQ]; simp; omega
      have dN : ((N : Int) == 0) = false := by simpa using hN
      clear EQ
      have HF := hide (((unhide HD).put1 2 (.string tt) (by simp)).fin rfl (.int .i64 xi) (.string sh) (.string tt) (.int .i64 (H.length : Int)) (.slice (some ⟨hb, 0, none⟩) H.length hc))
      go_wp2
      have k0 := (unhide HF).1.cell (i := 0) rfl
      have k1 := (unhide HF).1.cell (i := 1) rfl
      have k2 := (unhide HF).1.cell (i := 2) rfl
      have k3 := (unhide HF).1.cell (i := 3) rfl
      have k4 := (unhide HF).1.cell (i := 4) rfl
      refine bodyPost_ret (v := .tuple #[vBill xi sh tt (H.length : Int) (.slice (some ⟨hb, 0, none⟩) H.length hc), .bool true]) (by simp [results, Try.results42, go_sem, vBill, k0, k1, k2, k3, k4]) rfl ?_
      show DoS _ _ _ _ _ _ _
      rw [unhide EP]
      exact ⟨hb, hc, rfl, (unhide HF).2.2, hl, by unfold maxLen; exact hm, Or.inl rfl, kept_of_below (unhide HF).2.1⟩

set_option maxRecDepth 100000 in
set_option maxHeartbeats 8000000 in
theorem specDo3_any (xi : Int) (sh od : ByteArray) (hb hc : Nat) (H : List ByteArray) (id : Int) (who tt : ByteArray) (num : Int) (many : Int) (w : World) (hO : OwnV w hb (strs H)) (hl : H.length ≤ hc) (hm : hc ≤ maxLen) (hn : H.length ≤ 1048576) :
    Calls Try.prog 42 #[vBill xi sh od (H.length : Int) (.slice (some ⟨hb, 0, none⟩) H.length hc), vBillOp 3 id who tt num many] w fun e w' => DoS (xi, sh, od, (H.length : Int), H) hb hc w (passV (xi, sh, od, (H.length : Int), H) (3, id, who, tt, num, many)) e w' := by
  obtain ⟨V1, eV1⟩ : ∃ V, V = ((w.alloc (.cells #[.int .i64 xi, .string sh, .string od, .int .i64 (H.length : Int), .slice (some ⟨hb, 0, none⟩) H.length hc] 40)).alloc (.cells #[.int .i64 3, .int .i64 id, .string who, .string tt, .int .i64 num, .int .i64 many] 34)).alloc (.cells #[.int .i64 0, .string ⟨#[]⟩, .string ⟨#[]⟩, .int .i64 0, .slice none 0 0] 40) := ⟨_, rfl⟩
  have hd := d3_new hO #[.int .i64 xi, .string sh, .string od, .int .i64 (H.length : Int), .slice (some ⟨hb, 0, none⟩) H.length hc] #[.int .i64 3, .int .i64 id, .string who, .string tt, .int .i64 num, .int .i64 many] #[.int .i64 0, .string ⟨#[]⟩, .string ⟨#[]⟩, .int .i64 0, .slice none 0 0] 40 34 40
  rw [← eV1] at hd
  have HD : Hid (D3 w V1 [.int .i64 xi, .string sh, .string od, .int .i64 (H.length : Int), .slice (some ⟨hb, 0, none⟩) H.length hc] [.int .i64 3, .int .i64 id, .string who, .string tt, .int .i64 num, .int .i64 many] [.int .i64 0, .string ⟨#[]⟩, .string ⟨#[]⟩, .int .i64 0, .slice none 0 0] hb H) := hd
  have QH := hide fun V (hV : OwnV V hb (strs H)) => specHolds_any xi sh od (H.length : Int) (some ⟨hb, 0, none⟩) hc H who V (hV.cIn hl hm)
  have hlt := hd.lt
  unfold maxLen at hm
  clear hd
  unfold vBill at QH
  unfold vBill vBillOp
  go_enter Try.func42, Try.ntmps42
  go_upto_region 1 with (fail)
  rw [← eV1]
  clear eV1
  have EQ : Hid (passV (xi, sh, od, (H.length : Int), H) (3, id, who, tt, num, many) = if hldB H num who then some (xi, sh, od, (H.length : Int), H.set num.toNat tt) else none) := rfl
  have Q1 := hide fun V => l1In_any num 0 ((H.length : Int) - 1) V
  clear QH
  have x0 := (unhide HD).o1.cell (i := 0) rfl
  have x1 := (unhide HD).o1.cell (i := 1) rfl
  have x2 := (unhide HD).o1.cell (i := 2) rfl
  have x3 := (unhide HD).o1.cell (i := 3) rfl
  have x4 := (unhide HD).o1.cell (i := 4) rfl
  have xf := (unhide HD).o1.frozen
  have o0 := (unhide HD).o2.cell (i := 0) rfl
  have o1 := (unhide HD).o2.cell (i := 1) rfl
  have o2 := (unhide HD).o2.cell (i := 2) rfl
  have o3 := (unhide HD).o2.cell (i := 3) rfl
  have o4 := (unhide HD).o2.cell (i := 4) rfl
  have o5 := (unhide HD).o2.cell (i := 5) rfl
  have r0 := (unhide HD).o3.cell (i := 0) rfl
  have r1 := (unhide HD).o3.cell (i := 1) rfl
  have r2 := (unhide HD).o3.cell (i := 2) rfl
  have r3 := (unhide HD).o3.cell (i := 3) rfl
  have r4 := (unhide HD).o3.cell (i := 4) rfl
  have rf := (unhide HD).o3.frozen
  have hn1 : ¬ hb = w.heap.size := by omega
  have hn2 : ¬ w.heap.size = hb := by omega
  have hn3 : ¬ hb = w.heap.size + 2 := by omega
  have hn4 : ¬ w.heap.size + 2 = hb := by omega
  have hn5 : ¬ hb = w.heap.size + 1 := by omega
  have hn6 : ¬ w.heap.size + 1 = hb := by omega
  go_upto_region 7 with (fail)
  cases hi : inB num 0 ((H.length : Int) - 1) with
  | false =>
    rw [hi] at Q1
    have hld : hldB H num who = false := by
      have : ¬ (0 ≤ num ∧ num < H.length) := fun h => by
        have : inB num 0 ((H.length : Int) - 1) = true := by simp [inB]; omega
        rw [hi] at this; cases this
      simp [hldB, this]
    have EP : Hid (passV (xi, sh, od, (H.length : Int), H) (3, id, who, tt, num, many) = none) := by
      show _ = _
      rw [unhide EQ]; rw [hld]; rfl
    clear EQ hld
    refine wp_region_quiet_lit (by kernel_rfl) (by kernel_rfl) ?_
    repeat (go_big_quiet_step (fail))
    go_big_quiet_want
    go_big_quiet_op
    go_big_quiet_call (exact Calls.quiet_of_same (unhide Q1 _))
    repeat (go_big_quiet_step (fail))
    refine wpQuiet_nil ?_
    intro _ hw'
    obtain ⟨nq, hw''⟩ := hw'
    subst hw''
    replace HD := hide ((unhide HD).drewN nq)
    clear x0 x1 x2 x3 x4 xf o0 o1 o2 o3 o4 o5 r0 r1 r2 r3 r4 rf
    have x0 := (unhide HD).o1.cell (i := 0) rfl
    have x1 := (unhide HD).o1.cell (i := 1) rfl
    have x2 := (unhide HD).o1.cell (i := 2) rfl
    have x3 := (unhide HD).o1.cell (i := 3) rfl
    have x4 := (unhide HD).o1.cell (i := 4) rfl
    have xf := (unhide HD).o1.frozen
    have o0 := (unhide HD).o2.cell (i := 0) rfl
    have o1 := (unhide HD).o2.cell (i := 1) rfl
    have o2 := (unhide HD).o2.cell (i := 2) rfl
    have o3 := (unhide HD).o2.cell (i := 3) rfl
    have o4 := (unhide HD).o2.cell (i := 4) rfl
    have o5 := (unhide HD).o2.cell (i := 5) rfl
    have r0 := (unhide HD).o3.cell (i := 0) rfl
    have r1 := (unhide HD).o3.cell (i := 1) rfl
    have r2 := (unhide HD).o3.cell (i := 2) rfl
    have r3 := (unhide HD).o3.cell (i := 3) rfl
    have r4 := (unhide HD).o3.cell (i := 4) rfl
    have rf := (unhide HD).o3.frozen
    have HF := hide ((unhide HD).fin rfl (.int .i64 xi) (.string sh) (.string od) (.int .i64 (H.length : Int)) (.slice (some ⟨hb, 0, none⟩) H.length hc))
    go_wp2
    have k0 := (unhide HF).1.cell (i := 0) rfl
    have k1 := (unhide HF).1.cell (i := 1) rfl
    have k2 := (unhide HF).1.cell (i := 2) rfl
    have k3 := (unhide HF).1.cell (i := 3) rfl
    have k4 := (unhide HF).1.cell (i := 4) rfl
    refine bodyPost_ret (v := .tuple #[vBill xi sh od (H.length : Int) (.slice (some ⟨hb, 0, none⟩) H.length hc), .bool false]) (by simp [results, Try.results42, go_sem, vBill, k0, k1, k2, k3, k4]) rfl ?_
    show DoS _ _ _ _ _ _ _
    rw [unhide EP]
    exact ⟨rfl, (unhide HF).2.1⟩
  | true =>
    rw [hi] at Q1
    have hi2 := inB_true hi
    obtain ⟨i, rfl⟩ := Int.eq_ofNat_of_zero_le hi2.1
    have hil : i < H.length := by omega
    have hki : (i : Int) < H.length := by omega
    have HHC := hide ((unhide HD).hl.cell (map_get H hil))
    have hcl := unhide HHC
    have te := text_eq (H.getD i default) who
    have EH : Hid (hldB H (i : Int) who = decide (H.getD i default = who)) := by show _ = _; simp [hldB, hil]
    clear hi hi2
    by_cases hs : H.getD i default = who
    · rw [decide_eq_true hs] at te EH
      have EP : Hid (passV (xi, sh, od, (H.length : Int), H) (3, id, who, tt, (i : Int), many) = some (xi, sh, od, (H.length : Int), H.set i tt)) := by
        show _ = _
        rw [unhide EQ]; rw [unhide EH]; rfl
      generalize H.getD i default = s at *
      clear EQ EH hs
      refine wp_region_quiet_lit (by kernel_rfl) (by kernel_rfl) ?_
      repeat (go_big_quiet_step (fail))
      go_big_quiet_want
      go_big_quiet_op
      go_big_quiet_call (exact Calls.quiet_of_same (unhide Q1 _))
      repeat (go_big_quiet_step (fail))
      refine wpQuiet_nil ?_
      intro _ hw'
      obtain ⟨nq, hw''⟩ := hw'
      subst hw''
      replace HD := hide ((unhide HD).drewN nq)
      clear x0 x1 x2 x3 x4 xf o0 o1 o2 o3 o4 o5 r0 r1 r2 r3 r4 rf
      have x0 := (unhide HD).o1.cell (i := 0) rfl
      have x1 := (unhide HD).o1.cell (i := 1) rfl
      have x2 := (unhide HD).o1.cell (i := 2) rfl
      have x3 := (unhide HD).o1.cell (i := 3) rfl
      have x4 := (unhide HD).o1.cell (i := 4) rfl
      have xf := (unhide HD).o1.frozen
      have o0 := (unhide HD).o2.cell (i := 0) rfl
      have o1 := (unhide HD).o2.cell (i := 1) rfl
      have o2 := (unhide HD).o2.cell (i := 2) rfl
      have o3 := (unhide HD).o2.cell (i := 3) rfl
      have o4 := (unhide HD).o2.cell (i := 4) rfl
      have o5 := (unhide HD).o2.cell (i := 5) rfl
      have r0 := (unhide HD).o3.cell (i := 0) rfl
      have r1 := (unhide HD).o3.cell (i := 1) rfl
      have r2 := (unhide HD).o3.cell (i := 2) rfl
      have r3 := (unhide HD).o3.cell (i := 3) rfl
      have r4 := (unhide HD).o3.cell (i := 4) rfl
      have rf := (unhide HD).o3.frozen
      have hcl2 := (unhide HD).hl.cell (map_get H hil)
      generalize H.getD i default = s2 at *
      have hlf := (unhide HD).hl.frozen i
      have HF := hide ((unhide HD).hand rfl i tt hil (.int .i64 xi) (.string sh) (.string od) (.int .i64 (H.length : Int)) (.slice (some ⟨hb, 0, none⟩) H.length hc))
      go_wp2
      have k0 := (unhide HF).1.cell (i := 0) rfl
      have k1 := (unhide HF).1.cell (i := 1) rfl
      have k2 := (unhide HF).1.cell (i := 2) rfl
      have k3 := (unhide HF).1.cell (i := 3) rfl
      have k4 := (unhide HF).1.cell (i := 4) rfl
      refine bodyPost_ret (v := .tuple #[vBill xi sh od (H.length : Int) (.slice (some ⟨hb, 0, none⟩) H.length hc), .bool true]) (by simp [results, Try.results42, go_sem, vBill, k0, k1, k2, k3, k4]) rfl ?_
      show DoS _ _ _ _ _ _ _
      rw [unhide EP]
      exact ⟨hb, hc, by rw [List.length_set], (unhide HF).2.2, by rw [List.length_set]; exact hl, by unfold maxLen; exact hm, Or.inl rfl, (unhide HF).2.1⟩
    · rw [decide_eq_false hs] at te EH
      have EP : Hid (passV (xi, sh, od, (H.length : Int), H) (3, id, who, tt, (i : Int), many) = none) := by
        show _ = _
        rw [unhide EQ]; rw [unhide EH]; rfl
      generalize H.getD i default = s at *
      clear EQ EH hs
      refine wp_region_quiet_lit (by kernel_rfl) (by kernel_rfl) ?_
      repeat (go_big_quiet_step (fail))
      go_big_quiet_want
      go_big_quiet_op
      go_big_quiet_call (exact Calls.quiet_of_same (unhide Q1 _))
      repeat (go_big_quiet_step (fail))
      refine wpQuiet_nil ?_
      intro _ hw'
      obtain ⟨nq, hw''⟩ := hw'
      subst hw''
      replace HD := hide ((unhide HD).drewN nq)
      clear x0 x1 x2 x3 x4 xf o0 o1 o2 o3 o4 o5 r0 r1 r2 r3 r4 rf
      have x0 := (unhide HD).o1.cell (i := 0) rfl
      have x1 := (unhide HD).o1.cell (i := 1) rfl
      have x2 := (unhide HD).o1.cell (i := 2) rfl
      have x3 := (unhide HD).o1.cell (i := 3) rfl
      have x4 := (unhide HD).o1.cell (i := 4) rfl
      have xf := (unhide HD).o1.frozen
      have o0 := (unhide HD).o2.cell (i := 0) rfl
      have o1 := (unhide HD).o2.cell (i := 1) rfl
      have o2 := (unhide HD).o2.cell (i := 2) rfl
      have o3 := (unhide HD).o2.cell (i := 3) rfl
      have o4 := (unhide HD).o2.cell (i := 4) rfl
      have o5 := (unhide HD).o2.cell (i := 5) rfl
      have r0 := (unhide HD).o3.cell (i := 0) rfl
      have r1 := (unhide HD).o3.cell (i := 1) rfl
      have r2 := (unhide HD).o3.cell (i := 2) rfl
      have r3 := (unhide HD).o3.cell (i := 3) rfl
      have r4 := (unhide HD).o3.cell (i := 4) rfl
      have rf := (unhide HD).o3.frozen
      have HF := hide ((unhide HD).fin rfl (.int .i64 xi) (.string sh) (.string od) (.int .i64 (H.length : Int)) (.slice (some ⟨hb, 0, none⟩) H.length hc))
      go_wp2
      have k0 := (unhide HF).1.cell (i := 0) rfl
      have k1 := (unhide HF).1.cell (i := 1) rfl
      have k2 := (unhide HF).1.cell (i := 2) rfl
      have k3 := (unhide HF).1.cell (i := 3) rfl
      have k4 := (unhide HF).1.cell (i := 4) rfl
      refine bodyPost_ret (v := .tuple #[vBill xi sh od (H.length : Int) (.slice (some ⟨hb, 0, none⟩) H.length hc), .bool false]) (by simp [results, Try.results42, go_sem, vBill, k0, k1, k2, k3, k4]) rfl ?_
      show DoS _ _ _ _ _ _ _
      rw [unhide EP]
      exact ⟨rfl, (unhide HF).2.1⟩

set_option maxRecDepth 100000 in
set_option maxHeartbeats 8000000 in
theorem specDo4_any (xi : Int) (sh od : ByteArray) (hb hc : Nat) (H : List ByteArray) (id : Int) (who tt : ByteArray) (num : Int) (many : Int) (w : World) (hO : OwnV w hb (strs H)) (hl : H.length ≤ hc) (hm : hc ≤ maxLen) (hn : H.length ≤ 1048576) :
    Calls Try.prog 42 #[vBill xi sh od (H.length : Int) (.slice (some ⟨hb, 0, none⟩) H.length hc), vBillOp 4 id who tt num many] w fun e w' => DoS (xi, sh, od, (H.length : Int), H) hb hc w (passV (xi, sh, od, (H.length : Int), H) (4, id, who, tt, num, many)) e w' := by
  obtain ⟨V1, eV1⟩ : ∃ V, V = ((w.alloc (.cells #[.int .i64 xi, .string sh, .string od, .int .i64 (H.length : Int), .slice (some ⟨hb, 0, none⟩) H.length hc] 40)).alloc (.cells #[.int .i64 4, .int .i64 id, .string who, .string tt, .int .i64 num, .int .i64 many] 34)).alloc (.cells #[.int .i64 0, .string ⟨#[]⟩, .string ⟨#[]⟩, .int .i64 0, .slice none 0 0] 40) := ⟨_, rfl⟩
  have hd := d3_new hO #[.int .i64 xi, .string sh, .string od, .int .i64 (H.length : Int), .slice (some ⟨hb, 0, none⟩) H.length hc] #[.int .i64 4, .int .i64 id, .string who, .string tt, .int .i64 num, .int .i64 many] #[.int .i64 0, .string ⟨#[]⟩, .string ⟨#[]⟩, .int .i64 0, .slice none 0 0] 40 34 40
  rw [← eV1] at hd
  have HD : Hid (D3 w V1 [.int .i64 xi, .string sh, .string od, .int .i64 (H.length : Int), .slice (some ⟨hb, 0, none⟩) H.length hc] [.int .i64 4, .int .i64 id, .string who, .string tt, .int .i64 num, .int .i64 many] [.int .i64 0, .string ⟨#[]⟩, .string ⟨#[]⟩, .int .i64 0, .slice none 0 0] hb H) := hd
  have QH := hide fun V (hV : OwnV V hb (strs H)) => specHolds_any xi sh od (H.length : Int) (some ⟨hb, 0, none⟩) hc H who V (hV.cIn hl hm)
  have hlt := hd.lt
  unfold maxLen at hm
  clear hd
  unfold vBill at QH
  unfold vBill vBillOp
  go_enter Try.func42, Try.ntmps42
  go_upto_region 1 with (fail)
  rw [← eV1]
  clear eV1
  have EQ : Hid (passV (xi, sh, od, (H.length : Int), H) (4, id, who, tt, num, many) = if hldB H num who && (noB od || decide (od = who)) then some (xi, sh, od, (H.length : Int), List.replicate H.length ⟨#[]⟩) else none) := rfl
  have Q1 := hide fun V => l1In_any num 0 ((H.length : Int) - 1) V
  have QM := hide fun V => specMade_any ⟨#[]⟩ H.length V hn
  clear QH
  have x0 := (unhide HD).o1.cell (i := 0) rfl
  have x1 := (unhide HD).o1.cell (i := 1) rfl
  have x2 := (unhide HD).o1.cell (i := 2) rfl
  have x3 := (unhide HD).o1.cell (i := 3) rfl
  have x4 := (unhide HD).o1.cell (i := 4) rfl
  have xf := (unhide HD).o1.frozen
  have o0 := (unhide HD).o2.cell (i := 0) rfl
  have o1 := (unhide HD).o2.cell (i := 1) rfl
  have o2 := (unhide HD).o2.cell (i := 2) rfl
  have o3 := (unhide HD).o2.cell (i := 3) rfl
  have o4 := (unhide HD).o2.cell (i := 4) rfl
  have o5 := (unhide HD).o2.cell (i := 5) rfl
  have r0 := (unhide HD).o3.cell (i := 0) rfl
  have r1 := (unhide HD).o3.cell (i := 1) rfl
  have r2 := (unhide HD).o3.cell (i := 2) rfl
  have r3 := (unhide HD).o3.cell (i := 3) rfl
  have r4 := (unhide HD).o3.cell (i := 4) rfl
  have rf := (unhide HD).o3.frozen
  have t2 := text_eq od who
  have t0 := no_list od
  go_upto_region 11 with (fail)
  cases hi : inB num 0 ((H.length : Int) - 1) with
  | false =>
    rw [hi] at Q1
    have hld : hldB H num who = false := by
      have : ¬ (0 ≤ num ∧ num < H.length) := fun h => by
        have : inB num 0 ((H.length : Int) - 1) = true := by simp [inB]; omega
        rw [hi] at this; cases this
      simp [hldB, this]
    have EP : Hid (passV (xi, sh, od, (H.length : Int), H) (4, id, who, tt, num, many) = none) := by
      show _ = _
      rw [unhide EQ]; rw [hld]; rfl
    clear EQ hld QM
    refine wp_region_quiet_lit (by kernel_rfl) (by kernel_rfl) ?_
    repeat (go_big_quiet_step (fail))
    go_big_quiet_want
    go_big_quiet_op
    go_big_quiet_call (exact Calls.quiet_of_same (unhide Q1 _))
    repeat (go_big_quiet_step (fail))
    refine wpQuiet_nil ?_
    intro _ hw'
    obtain ⟨nq, hw''⟩ := hw'
    subst hw''
    replace HD := hide ((unhide HD).drewN nq)
    clear x0 x1 x2 x3 x4 xf o0 o1 o2 o3 o4 o5 r0 r1 r2 r3 r4 rf
    have x0 := (unhide HD).o1.cell (i := 0) rfl
    have x1 := (unhide HD).o1.cell (i := 1) rfl
    have x2 := (unhide HD).o1.cell (i := 2) rfl
    have x3 := (unhide HD).o1.cell (i := 3) rfl
    have x4 := (unhide HD).o1.cell (i := 4) rfl
    have xf := (unhide HD).o1.frozen
    have o0 := (unhide HD).o2.cell (i := 0) rfl
    have o1 := (unhide HD).o2.cell (i := 1) rfl
    have o2 := (unhide HD).o2.cell (i := 2) rfl
    have o3 := (unhide HD).o2.cell (i := 3) rfl
    have o4 := (unhide HD).o2.cell (i := 4) rfl
    have o5 := (unhide HD).o2.cell (i := 5) rfl
    have r0 := (unhide HD).o3.cell (i := 0) rfl
    have r1 := (unhide HD).o3.cell (i := 1) rfl
    have r2 := (unhide HD).o3.cell (i := 2) rfl
    have r3 := (unhide HD).o3.cell (i := 3) rfl
    have r4 := (unhide HD).o3.cell (i := 4) rfl
    have rf := (unhide HD).o3.frozen
    have HF := hide ((unhide HD).fin rfl (.int .i64 xi) (.string sh) (.string od) (.int .i64 (H.length : Int)) (.slice (some ⟨hb, 0, none⟩) H.length hc))
    go_wp2
    have k0 := (unhide HF).1.cell (i := 0) rfl
    have k1 := (unhide HF).1.cell (i := 1) rfl
    have k2 := (unhide HF).1.cell (i := 2) rfl
    have k3 := (unhide HF).1.cell (i := 3) rfl
    have k4 := (unhide HF).1.cell (i := 4) rfl
    refine bodyPost_ret (v := .tuple #[vBill xi sh od (H.length : Int) (.slice (some ⟨hb, 0, none⟩) H.length hc), .bool false]) (by simp [results, Try.results42, go_sem, vBill, k0, k1, k2, k3, k4]) rfl ?_
    show DoS _ _ _ _ _ _ _
    rw [unhide EP]
    exact ⟨rfl, (unhide HF).2.1⟩
  | true =>
    rw [hi] at Q1
    have hi2 := inB_true hi
    obtain ⟨i, rfl⟩ := Int.eq_ofNat_of_zero_le hi2.1
    have hil : i < H.length := by omega
    have hki : (i : Int) < H.length := by omega
    have HHC := hide ((unhide HD).hl.cell (map_get H hil))
    have hcl := unhide HHC
    have te := text_eq (H.getD i default) who
    have EH : Hid (hldB H (i : Int) who = decide (H.getD i default = who)) := by show _ = _; simp [hldB, hil]
    clear hi hi2
    by_cases hs : H.getD i default = who
    · rw [decide_eq_true hs] at te EH
      cases hno : noB od with
      | true =>
        rw [hno] at t0
        have EP : Hid (passV (xi, sh, od, (H.length : Int), H) (4, id, who, tt, (i : Int), many) = some (xi, sh, od, (H.length : Int), List.replicate H.length ⟨#[]⟩)) := by
          show _ = _
          rw [unhide EQ]; rw [unhide EH, hno]; rfl
        generalize H.getD i default = s at *
        clear EQ EH hs hno
        refine wp_region_quiet_lit (by kernel_rfl) (by kernel_rfl) ?_
        repeat (go_big_quiet_step (fail))
        go_big_quiet_want
        go_big_quiet_op
        go_big_quiet_call (exact Calls.quiet_of_same (unhide Q1 _))
        repeat (go_big_quiet_step (fail))
        refine wpQuiet_nil ?_
        intro _ hw'
        obtain ⟨nq, hw''⟩ := hw'
        subst hw''
        replace HD := hide ((unhide HD).drewN nq)
        clear x0 x1 x2 x3 x4 xf o0 o1 o2 o3 o4 o5 r0 r1 r2 r3 r4 rf
        have x0 := (unhide HD).o1.cell (i := 0) rfl
        have x1 := (unhide HD).o1.cell (i := 1) rfl
        have x2 := (unhide HD).o1.cell (i := 2) rfl
        have x3 := (unhide HD).o1.cell (i := 3) rfl
        have x4 := (unhide HD).o1.cell (i := 4) rfl
        have xf := (unhide HD).o1.frozen
        have o0 := (unhide HD).o2.cell (i := 0) rfl
        have o1 := (unhide HD).o2.cell (i := 1) rfl
        have o2 := (unhide HD).o2.cell (i := 2) rfl
        have o3 := (unhide HD).o2.cell (i := 3) rfl
        have o4 := (unhide HD).o2.cell (i := 4) rfl
        have o5 := (unhide HD).o2.cell (i := 5) rfl
        have r0 := (unhide HD).o3.cell (i := 0) rfl
        have r1 := (unhide HD).o3.cell (i := 1) rfl
        have r2 := (unhide HD).o3.cell (i := 2) rfl
        have r3 := (unhide HD).o3.cell (i := 3) rfl
        have r4 := (unhide HD).o3.cell (i := 4) rfl
        have rf := (unhide HD).o3.frozen
        go_wp2_with fail
        refine (unhide QM _).mono ?_
        rintro e w2 ⟨g, c, rfl, hg, hgc, hcm, hG, hb2⟩
        have hD2 := (unhide HD).o3.lt
        replace HD := hide ((unhide HD).step hb2)
        have hgw : w.heap.size + 2 < g := by omega
        have HG := hide hG
        clear hb2 QM hG hg hD2
        clear x0 x1 x2 x3 x4 xf o0 o1 o2 o3 o4 o5 r0 r1 r2 r3 r4 rf
        have x0 := (unhide HD).o1.cell (i := 0) rfl
        have x1 := (unhide HD).o1.cell (i := 1) rfl
        have x2 := (unhide HD).o1.cell (i := 2) rfl
        have x3 := (unhide HD).o1.cell (i := 3) rfl
        have x4 := (unhide HD).o1.cell (i := 4) rfl
        have xf := (unhide HD).o1.frozen
        have o0 := (unhide HD).o2.cell (i := 0) rfl
        have o1 := (unhide HD).o2.cell (i := 1) rfl
        have o2 := (unhide HD).o2.cell (i := 2) rfl
        have o3 := (unhide HD).o2.cell (i := 3) rfl
        have o4 := (unhide HD).o2.cell (i := 4) rfl
        have o5 := (unhide HD).o2.cell (i := 5) rfl
        have r0 := (unhide HD).o3.cell (i := 0) rfl
        have r1 := (unhide HD).o3.cell (i := 1) rfl
        have r2 := (unhide HD).o3.cell (i := 2) rfl
        have r3 := (unhide HD).o3.cell (i := 3) rfl
        have r4 := (unhide HD).o3.cell (i := 4) rfl
        have rf := (unhide HD).o3.frozen
        have HF := hide (((unhide HD).put1 4 (.slice (some ⟨g, 0, none⟩) H.length c) (by simp)).fin rfl (.int .i64 xi) (.string sh) (.string od) (.int .i64 (H.length : Int)) (.slice (some ⟨g, 0, none⟩) H.length c))
        have HGF := hide (far5 (n := w.heap.size + 2) (farN (unhide HG) (show g ≠ w.heap.size by omega) 4 (.slice (some ⟨g, 0, none⟩) H.length c)) (by omega) (.int .i64 xi) (.string sh) (.string od) (.int .i64 (H.length : Int)) (.slice (some ⟨g, 0, none⟩) H.length c))
        go_wp2
        have k0 := (unhide HF).1.cell (i := 0) rfl
        have k1 := (unhide HF).1.cell (i := 1) rfl
        have k2 := (unhide HF).1.cell (i := 2) rfl
        have k3 := (unhide HF).1.cell (i := 3) rfl
        have k4 := (unhide HF).1.cell (i := 4) rfl
        refine bodyPost_ret (v := .tuple #[vBill xi sh od (H.length : Int) (.slice (some ⟨g, 0, none⟩) H.length c), .bool true]) (by simp [results, Try.results42, go_sem, vBill, k0, k1, k2, k3, k4]) rfl ?_
        show DoS _ _ _ _ _ _ _
        rw [unhide EP]
        exact ⟨g, c, by rw [List.length_replicate], unhide HGF, by rw [List.length_replicate]; exact hgc, hcm, Or.inr (by omega), kept_of_below (unhide HF).2.1⟩
      | false =>
        rw [hno] at t0
        by_cases ho : od = who
        · rw [decide_eq_true ho] at t2
          have EP : Hid (passV (xi, sh, od, (H.length : Int), H) (4, id, who, tt, (i : Int), many) = some (xi, sh, od, (H.length : Int), List.replicate H.length ⟨#[]⟩)) := by
            show _ = _
            rw [unhide EQ]; rw [unhide EH, hno, decide_eq_true ho]; rfl
          generalize H.getD i default = s at *
          clear EQ EH hs hno ho
          refine wp_region_quiet_lit (by kernel_rfl) (by kernel_rfl) ?_
          repeat (go_big_quiet_step (fail))
          go_big_quiet_want
          go_big_quiet_op
          go_big_quiet_call (exact Calls.quiet_of_same (unhide Q1 _))
          repeat (go_big_quiet_step (fail))
          refine wpQuiet_nil ?_
          intro _ hw'
          obtain ⟨nq, hw''⟩ := hw'
          subst hw''
          replace HD := hide ((unhide HD).drewN nq)
          clear x0 x1 x2 x3 x4 xf o0 o1 o2 o3 o4 o5 r0 r1 r2 r3 r4 rf
          have x0 := (unhide HD).o1.cell (i := 0) rfl
          have x1 := (unhide HD).o1.cell (i := 1) rfl
          have x2 := (unhide HD).o1.cell (i := 2) rfl
          have x3 := (unhide HD).o1.cell (i := 3) rfl
          have x4 := (unhide HD).o1.cell (i := 4) rfl
          have xf := (unhide HD).o1.frozen
          have o0 := (unhide HD).o2.cell (i := 0) rfl
          have o1 := (unhide HD).o2.cell (i := 1) rfl
          have o2 := (unhide HD).o2.cell (i := 2) rfl
          have o3 := (unhide HD).o2.cell (i := 3) rfl
          have o4 := (unhide HD).o2.cell (i := 4) rfl
          have o5 := (unhide HD).o2.cell (i := 5) rfl
          have r0 := (unhide HD).o3.cell (i := 0) rfl
          have r1 := (unhide HD).o3.cell (i := 1) rfl
          have r2 := (unhide HD).o3.cell (i := 2) rfl
          have r3 := (unhide HD).o3.cell (i := 3) rfl
          have r4 := (unhide HD).o3.cell (i := 4) rfl
          have rf := (unhide HD).o3.frozen
          go_wp2_with fail
          refine (unhide QM _).mono ?_
          rintro e w2 ⟨g, c, rfl, hg, hgc, hcm, hG, hb2⟩
          have hD2 := (unhide HD).o3.lt
          replace HD := hide ((unhide HD).step hb2)
          have hgw : w.heap.size + 2 < g := by omega
          have HG := hide hG
          clear hb2 QM hG hg hD2
          clear x0 x1 x2 x3 x4 xf o0 o1 o2 o3 o4 o5 r0 r1 r2 r3 r4 rf
          have x0 := (unhide HD).o1.cell (i := 0) rfl
          have x1 := (unhide HD).o1.cell (i := 1) rfl
          have x2 := (unhide HD).o1.cell (i := 2) rfl
          have x3 := (unhide HD).o1.cell (i := 3) rfl
          have x4 := (unhide HD).o1.cell (i := 4) rfl
          have xf := (unhide HD).o1.frozen
          have o0 := (unhide HD).o2.cell (i := 0) rfl
          have o1 := (unhide HD).o2.cell (i := 1) rfl
          have o2 := (unhide HD).o2.cell (i := 2) rfl
          have o3 := (unhide HD).o2.cell (i := 3) rfl
          have o4 := (unhide HD).o2.cell (i := 4) rfl
          have o5 := (unhide HD).o2.cell (i := 5) rfl
          have r0 := (unhide HD).o3.cell (i := 0) rfl
          have r1 := (unhide HD).o3.cell (i := 1) rfl
          have r2 := (unhide HD).o3.cell (i := 2) rfl
          have r3 := (unhide HD).o3.cell (i := 3) rfl
          have r4 := (unhide HD).o3.cell (i := 4) rfl
          have rf := (unhide HD).o3.frozen
          have HF := hide (((unhide HD).put1 4 (.slice (some ⟨g, 0, none⟩) H.length c) (by simp)).fin rfl (.int .i64 xi) (.string sh) (.string od) (.int .i64 (H.length : Int)) (.slice (some ⟨g, 0, none⟩) H.length c))
          have HGF := hide (far5 (n := w.heap.size + 2) (farN (unhide HG) (show g ≠ w.heap.size by omega) 4 (.slice (some ⟨g, 0, none⟩) H.length c)) (by omega) (.int .i64 xi) (.string sh) (.string od) (.int .i64 (H.length : Int)) (.slice (some ⟨g, 0, none⟩) H.length c))
          go_wp2
          have k0 := (unhide HF).1.cell (i := 0) rfl
          have k1 := (unhide HF).1.cell (i := 1) rfl
          have k2 := (unhide HF).1.cell (i := 2) rfl
          have k3 := (unhide HF).1.cell (i := 3) rfl
          have k4 := (unhide HF).1.cell (i := 4) rfl
          refine bodyPost_ret (v := .tuple #[vBill xi sh od (H.length : Int) (.slice (some ⟨g, 0, none⟩) H.length c), .bool true]) (by simp [results, Try.results42, go_sem, vBill, k0, k1, k2, k3, k4]) rfl ?_
          show DoS _ _ _ _ _ _ _
          rw [unhide EP]
          exact ⟨g, c, by rw [List.length_replicate], unhide HGF, by rw [List.length_replicate]; exact hgc, hcm, Or.inr (by omega), kept_of_below (unhide HF).2.1⟩
        · rw [decide_eq_false ho] at t2
          have EP : Hid (passV (xi, sh, od, (H.length : Int), H) (4, id, who, tt, (i : Int), many) = none) := by
            show _ = _
            rw [unhide EQ]; rw [unhide EH, hno, decide_eq_false ho]; rfl
          generalize H.getD i default = s at *
          clear EQ EH hs hno ho QM
          refine wp_region_quiet_lit (by kernel_rfl) (by kernel_rfl) ?_
          repeat (go_big_quiet_step (fail))
          go_big_quiet_want
          go_big_quiet_op
          go_big_quiet_call (exact Calls.quiet_of_same (unhide Q1 _))
          repeat (go_big_quiet_step (fail))
          refine wpQuiet_nil ?_
          intro _ hw'
          obtain ⟨nq, hw''⟩ := hw'
          subst hw''
          replace HD := hide ((unhide HD).drewN nq)
          clear x0 x1 x2 x3 x4 xf o0 o1 o2 o3 o4 o5 r0 r1 r2 r3 r4 rf
          have x0 := (unhide HD).o1.cell (i := 0) rfl
          have x1 := (unhide HD).o1.cell (i := 1) rfl
          have x2 := (unhide HD).o1.cell (i := 2) rfl
          have x3 := (unhide HD).o1.cell (i := 3) rfl
          have x4 := (unhide HD).o1.cell (i := 4) rfl
          have xf := (unhide HD).o1.frozen
          have o0 := (unhide HD).o2.cell (i := 0) rfl
          have o1 := (unhide HD).o2.cell (i := 1) rfl
          have o2 := (unhide HD).o2.cell (i := 2) rfl
          have o3 := (unhide HD).o2.cell (i := 3) rfl
          have o4 := (unhide HD).o2.cell (i := 4) rfl
          have o5 := (unhide HD).o2.cell (i := 5) rfl
          have r0 := (unhide HD).o3.cell (i := 0) rfl
          have r1 := (unhide HD).o3.cell (i := 1) rfl
          have r2 := (unhide HD).o3.cell (i := 2) rfl
          have r3 := (unhide HD).o3.cell (i := 3) rfl
          have r4 := (unhide HD).o3.cell (i := 4) rfl
          have rf := (unhide HD).o3.frozen
          have HF := hide ((unhide HD).fin rfl (.int .i64 xi) (.string sh) (.string od) (.int .i64 (H.length : Int)) (.slice (some ⟨hb, 0, none⟩) H.length hc))
          go_wp2
          have k0 := (unhide HF).1.cell (i := 0) rfl
          have k1 := (unhide HF).1.cell (i := 1) rfl
          have k2 := (unhide HF).1.cell (i := 2) rfl
          have k3 := (unhide HF).1.cell (i := 3) rfl
          have k4 := (unhide HF).1.cell (i := 4) rfl
          refine bodyPost_ret (v := .tuple #[vBill xi sh od (H.length : Int) (.slice (some ⟨hb, 0, none⟩) H.length hc), .bool false]) (by simp [results, Try.results42, go_sem, vBill, k0, k1, k2, k3, k4]) rfl ?_
          show DoS _ _ _ _ _ _ _
          rw [unhide EP]
          exact ⟨rfl, (unhide HF).2.1⟩
    · rw [decide_eq_false hs] at te EH
      have EP : Hid (passV (xi, sh, od, (H.length : Int), H) (4, id, who, tt, (i : Int), many) = none) := by
        show _ = _
        rw [unhide EQ]; rw [unhide EH]; rfl
      generalize H.getD i default = s at *
      clear EQ EH hs QM
      refine wp_region_quiet_lit (by kernel_rfl) (by kernel_rfl) ?_
      repeat (go_big_quiet_step (fail))
      go_big_quiet_want
      go_big_quiet_op
      go_big_quiet_call (exact Calls.quiet_of_same (unhide Q1 _))
      repeat (go_big_quiet_step (fail))
      refine wpQuiet_nil ?_
      intro _ hw'
      obtain ⟨nq, hw''⟩ := hw'
      subst hw''
      replace HD := hide ((unhide HD).drewN nq)
      clear x0 x1 x2 x3 x4 xf o0 o1 o2 o3 o4 o5 r0 r1 r2 r3 r4 rf
      have x0 := (unhide HD).o1.cell (i := 0) rfl
      have x1 := (unhide HD).o1.cell (i := 1) rfl
      have x2 := (unhide HD).o1.cell (i := 2) rfl
      have x3 := (unhide HD).o1.cell (i := 3) rfl
      have x4 := (unhide HD).o1.cell (i := 4) rfl
      have xf := (unhide HD).o1.frozen
      have o0 := (unhide HD).o2.cell (i := 0) rfl
      have o1 := (unhide HD).o2.cell (i := 1) rfl
      have o2 := (unhide HD).o2.cell (i := 2) rfl
      have o3 := (unhide HD).o2.cell (i := 3) rfl
      have o4 := (unhide HD).o2.cell (i := 4) rfl
      have o5 := (unhide HD).o2.cell (i := 5) rfl
      have r0 := (unhide HD).o3.cell (i := 0) rfl
      have r1 := (unhide HD).o3.cell (i := 1) rfl
      have r2 := (unhide HD).o3.cell (i := 2) rfl
      have r3 := (unhide HD).o3.cell (i := 3) rfl
      have r4 := (unhide HD).o3.cell (i := 4) rfl
      have rf := (unhide HD).o3.frozen
      have HF := hide ((unhide HD).fin rfl (.int .i64 xi) (.string sh) (.string od) (.int .i64 (H.length : Int)) (.slice (some ⟨hb, 0, none⟩) H.length hc))
      go_wp2
      have k0 := (unhide HF).1.cell (i := 0) rfl
      have k1 := (unhide HF).1.cell (i := 1) rfl
      have k2 := (unhide HF).1.cell (i := 2) rfl
      have k3 := (unhide HF).1.cell (i := 3) rfl
      have k4 := (unhide HF).1.cell (i := 4) rfl
      refine bodyPost_ret (v := .tuple #[vBill xi sh od (H.length : Int) (.slice (some ⟨hb, 0, none⟩) H.length hc), .bool false]) (by simp [results, Try.results42, go_sem, vBill, k0, k1, k2, k3, k4]) rfl ?_
      show DoS _ _ _ _ _ _ _
      rw [unhide EP]
      exact ⟨rfl, (unhide HF).2.1⟩

set_option maxRecDepth 100000 in
set_option maxHeartbeats 8000000 in
theorem specDo5_any (xi : Int) (sh od : ByteArray) (hb hc : Nat) (H : List ByteArray) (id : Int) (who tt : ByteArray) (num : Int) (many : Nat) (w : World) (hO : OwnV w hb (strs H)) (hl : H.length ≤ hc) (hm : hc ≤ maxLen) (hmy : many ≤ 1048576) :
    Calls Try.prog 42 #[vBill xi sh od (H.length : Int) (.slice (some ⟨hb, 0, none⟩) H.length hc), vBillOp 5 id who tt num (many : Int)] w fun e w' => DoS (xi, sh, od, (H.length : Int), H) hb hc w (passV (xi, sh, od, (H.length : Int), H) (5, id, who, tt, num, (many : Int))) e w' := by
  obtain ⟨V1, eV1⟩ : ∃ V, V = ((w.alloc (.cells #[.int .i64 xi, .string sh, .string od, .int .i64 (H.length : Int), .slice (some ⟨hb, 0, none⟩) H.length hc] 40)).alloc (.cells #[.int .i64 5, .int .i64 id, .string who, .string tt, .int .i64 num, .int .i64 (many : Int)] 34)).alloc (.cells #[.int .i64 0, .string ⟨#[]⟩, .string ⟨#[]⟩, .int .i64 0, .slice none 0 0] 40) := ⟨_, rfl⟩
  have hd := d3_new hO #[.int .i64 xi, .string sh, .string od, .int .i64 (H.length : Int), .slice (some ⟨hb, 0, none⟩) H.length hc] #[.int .i64 5, .int .i64 id, .string who, .string tt, .int .i64 num, .int .i64 (many : Int)] #[.int .i64 0, .string ⟨#[]⟩, .string ⟨#[]⟩, .int .i64 0, .slice none 0 0] 40 34 40
  rw [← eV1] at hd
  have HD : Hid (D3 w V1 [.int .i64 xi, .string sh, .string od, .int .i64 (H.length : Int), .slice (some ⟨hb, 0, none⟩) H.length hc] [.int .i64 5, .int .i64 id, .string who, .string tt, .int .i64 num, .int .i64 (many : Int)] [.int .i64 0, .string ⟨#[]⟩, .string ⟨#[]⟩, .int .i64 0, .slice none 0 0] hb H) := hd
  have QH := hide fun V (hV : OwnV V hb (strs H)) => specHolds_any xi sh od (H.length : Int) (some ⟨hb, 0, none⟩) hc H who V (hV.cIn hl hm)
  have hlt := hd.lt
  unfold maxLen at hm
  clear hd
  unfold vBill at QH
  unfold vBill vBillOp
  go_enter Try.func42, Try.ntmps42
  go_upto_region 1 with (fail)
  rw [← eV1]
  clear eV1
  have EQ : Hid (passV (xi, sh, od, (H.length : Int), H) (5, id, who, tt, num, (many : Int)) = if cnt H who = H.length then some (xi, sh, od, (many : Int), List.replicate many who) else none) := rfl
  have QM := hide fun V => specMade_any who many V hmy
  have x0 := (unhide HD).o1.cell (i := 0) rfl
  have x1 := (unhide HD).o1.cell (i := 1) rfl
  have x2 := (unhide HD).o1.cell (i := 2) rfl
  have x3 := (unhide HD).o1.cell (i := 3) rfl
  have x4 := (unhide HD).o1.cell (i := 4) rfl
  have xf := (unhide HD).o1.frozen
  have o0 := (unhide HD).o2.cell (i := 0) rfl
  have o1 := (unhide HD).o2.cell (i := 1) rfl
  have o2 := (unhide HD).o2.cell (i := 2) rfl
  have o3 := (unhide HD).o2.cell (i := 3) rfl
  have o4 := (unhide HD).o2.cell (i := 4) rfl
  have o5 := (unhide HD).o2.cell (i := 5) rfl
  have r0 := (unhide HD).o3.cell (i := 0) rfl
  have r1 := (unhide HD).o3.cell (i := 1) rfl
  have r2 := (unhide HD).o3.cell (i := 2) rfl
  have r3 := (unhide HD).o3.cell (i := 3) rfl
  have r4 := (unhide HD).o3.cell (i := 4) rfl
  have rf := (unhide HD).o3.frozen
  go_upto_region 15 with (fail)
  have QG := hide fun x' : Gr V1 => unhide QH x'.val ((unhide HD).hl.step x'.ok)
  have y0 := fun x' : Gr V1 => gr_cell x0 x'
  have y1 := fun x' : Gr V1 => gr_cell x1 x'
  have y2 := fun x' : Gr V1 => gr_cell x2 x'
  have y3 := fun x' : Gr V1 => gr_cell x3 x'
  have y4 := fun x' : Gr V1 => gr_cell x4 x'
  have z2 := fun x' : Gr V1 => gr_cell o2 x'
  have gsome := gr_some V1
  clear QH
  generalize cnt H who = N at *
  by_cases hN : N = H.length
  · have dN : ((N : Int) == (H.length : Int)) = true := by simp [hN]
    have EP : Hid (passV (xi, sh, od, (H.length : Int), H) (5, id, who, tt, num, (many : Int)) = some (xi, sh, od, (many : Int), List.replicate many who)) := by
      show _ = _
      rw [unhide EQ]; rw [if_pos hN]
    clear EQ hN
    refine wp_region_grown (by kernel_rfl) (by kernel_rfl) ?_
    repeat (go_big_quiet_step (fail))
    go_big_quiet_want
    go_big_quiet_op
    go_big_quiet_call (exact calls_grown (unhide QG _))
    repeat (go_big_quiet_step (fail))
    refine wpQuiet_nil ?_
    intro w6 hw6
    obtain ⟨z', hz⟩ := hw6
    have hb6 : Below V1.heap.size V1 w6 := hz ▸ z'.ok
    clear hz gsome QG y0 y1 y2 y3 y4 z2
    replace HD := hide ((unhide HD).step hb6)
    clear hb6
    clear x0 x1 x2 x3 x4 xf o0 o1 o2 o3 o4 o5 r0 r1 r2 r3 r4 rf
    have x0 := (unhide HD).o1.cell (i := 0) rfl
    have x1 := (unhide HD).o1.cell (i := 1) rfl
    have x2 := (unhide HD).o1.cell (i := 2) rfl
    have x3 := (unhide HD).o1.cell (i := 3) rfl
    have x4 := (unhide HD).o1.cell (i := 4) rfl
    have xf := (unhide HD).o1.frozen
    have o0 := (unhide HD).o2.cell (i := 0) rfl
    have o1 := (unhide HD).o2.cell (i := 1) rfl
    have o2 := (unhide HD).o2.cell (i := 2) rfl
    have o3 := (unhide HD).o2.cell (i := 3) rfl
    have o4 := (unhide HD).o2.cell (i := 4) rfl
    have o5 := (unhide HD).o2.cell (i := 5) rfl
    have r0 := (unhide HD).o3.cell (i := 0) rfl
    have r1 := (unhide HD).o3.cell (i := 1) rfl
    have r2 := (unhide HD).o3.cell (i := 2) rfl
    have r3 := (unhide HD).o3.cell (i := 3) rfl
    have r4 := (unhide HD).o3.cell (i := 4) rfl
    have rf := (unhide HD).o3.frozen
    replace HD := hide ((unhide HD).put1 3 (.int .i64 (many : Int)) (by simp))
    go_wp2_with fail
    refine (unhide QM _).mono ?_
    rintro e w2 ⟨g, c, rfl, hg, hgc, hcm, hG, hb2⟩
    have hD2 := (unhide HD).o3.lt
    replace HD := hide ((unhide HD).step hb2)
    have hgw : w.heap.size + 2 < g := by omega
    have HG := hide hG
    clear hb2 QM hG hg hD2
    clear x0 x1 x2 x3 x4 xf o0 o1 o2 o3 o4 o5 r0 r1 r2 r3 r4 rf
    have x0 := (unhide HD).o1.cell (i := 0) rfl
    have x1 := (unhide HD).o1.cell (i := 1) rfl
    have x2 := (unhide HD).o1.cell (i := 2) rfl
    have x3 := (unhide HD).o1.cell (i := 3) rfl
    have x4 := (unhide HD).o1.cell (i := 4) rfl
    have xf := (unhide HD).o1.frozen
    have o0 := (unhide HD).o2.cell (i := 0) rfl
    have o1 := (unhide HD).o2.cell (i := 1) rfl
    have o2 := (unhide HD).o2.cell (i := 2) rfl
    have o3 := (unhide HD).o2.cell (i := 3) rfl
    have o4 := (unhide HD).o2.cell (i := 4) rfl
    have o5 := (unhide HD).o2.cell (i := 5) rfl
    have r0 := (unhide HD).o3.cell (i := 0) rfl
    have r1 := (unhide HD).o3.cell (i := 1) rfl
    have r2 := (unhide HD).o3.cell (i := 2) rfl
    have r3 := (unhide HD).o3.cell (i := 3) rfl
    have r4 := (unhide HD).o3.cell (i := 4) rfl
    have rf := (unhide HD).o3.frozen
    have HF := hide (((unhide HD).put1 4 (.slice (some ⟨g, 0, none⟩) many c) (by simp)).fin rfl (.int .i64 xi) (.string sh) (.string od) (.int .i64 (many : Int)) (.slice (some ⟨g, 0, none⟩) many c))
    have HGF := hide (far5 (n := w.heap.size + 2) (farN (unhide HG) (show g ≠ w.heap.size by omega) 4 (.slice (some ⟨g, 0, none⟩) many c)) (by omega) (.int .i64 xi) (.string sh) (.string od) (.int .i64 (many : Int)) (.slice (some ⟨g, 0, none⟩) many c))
    go_wp2
    have k0 := (unhide HF).1.cell (i := 0) rfl
    have k1 := (unhide HF).1.cell (i := 1) rfl
    have k2 := (unhide HF).1.cell (i := 2) rfl
    have k3 := (unhide HF).1.cell (i := 3) rfl
    have k4 := (unhide HF).1.cell (i := 4) rfl
    refine bodyPost_ret (v := .tuple #[vBill xi sh od (many : Int) (.slice (some ⟨g, 0, none⟩) many c), .bool true]) (by simp [results, Try.results42, go_sem, vBill, k0, k1, k2, k3, k4]) rfl ?_
    show DoS _ _ _ _ _ _ _
    rw [unhide EP]
    exact ⟨g, c, by rw [List.length_replicate], unhide HGF, by rw [List.length_replicate]; exact hgc, hcm, Or.inr (by omega), kept_of_below (unhide HF).2.1⟩
  · have dN : ((N : Int) == (H.length : Int)) = false := by rw [beq_eq_false_iff_ne]; omega
    have EP : Hid (passV (xi, sh, od, (H.length : Int), H) (5, id, who, tt, num, (many : Int)) = none) := by
      show _ = _
      rw [unhide EQ]; rw [if_neg hN]
    clear EQ hN QM
    refine wp_region_grown (by kernel_rfl) (by kernel_rfl) ?_
    repeat (go_big_quiet_step (fail))
    go_big_quiet_want
    go_big_quiet_op
    go_big_quiet_call (exact calls_grown (unhide QG _))
    repeat (go_big_quiet_step (fail))
    refine wpQuiet_nil ?_
    intro w6 hw6
    obtain ⟨z', hz⟩ := hw6
    have hb6 : Below V1.heap.size V1 w6 := hz ▸ z'.ok
    clear hz gsome QG y0 y1 y2 y3 y4 z2
    replace HD := hide ((unhide HD).step hb6)
    clear hb6
    clear x0 x1 x2 x3 x4 xf o0 o1 o2 o3 o4 o5 r0 r1 r2 r3 r4 rf
    have x0 := (unhide HD).o1.cell (i := 0) rfl
    have x1 := (unhide HD).o1.cell (i := 1) rfl
    have x2 := (unhide HD).o1.cell (i := 2) rfl
    have x3 := (unhide HD).o1.cell (i := 3) rfl
    have x4 := (unhide HD).o1.cell (i := 4) rfl
    have xf := (unhide HD).o1.frozen
    have o0 := (unhide HD).o2.cell (i := 0) rfl
    have o1 := (unhide HD).o2.cell (i := 1) rfl
    have o2 := (unhide HD).o2.cell (i := 2) rfl
    have o3 := (unhide HD).o2.cell (i := 3) rfl
    have o4 := (unhide HD).o2.cell (i := 4) rfl
    have o5 := (unhide HD).o2.cell (i := 5) rfl
    have r0 := (unhide HD).o3.cell (i := 0) rfl
    have r1 := (unhide HD).o3.cell (i := 1) rfl
    have r2 := (unhide HD).o3.cell (i := 2) rfl
    have r3 := (unhide HD).o3.cell (i := 3) rfl
    have r4 := (unhide HD).o3.cell (i := 4) rfl
    have rf := (unhide HD).o3.frozen
    have HF := hide ((unhide HD).fin rfl (.int .i64 xi) (.string sh) (.string od) (.int .i64 (H.length : Int)) (.slice (some ⟨hb, 0, none⟩) H.length hc))
    go_wp2
    have k0 := (unhide HF).1.cell (i := 0) rfl
    have k1 := (unhide HF).1.cell (i := 1) rfl
    have k2 := (unhide HF).1.cell (i := 2) rfl
    have k3 := (unhide HF).1.cell (i := 3) rfl
    have k4 := (unhide HF).1.cell (i := 4) rfl
    refine bodyPost_ret (v := .tuple #[vBill xi sh od (H.length : Int) (.slice (some ⟨hb, 0, none⟩) H.length hc), .bool false]) (by simp [results, Try.results42, go_sem, vBill, k0, k1, k2, k3, k4]) rfl ?_
    show DoS _ _ _ _ _ _ _
    rw [unhide EP]
    exact ⟨rfl, (unhide HF).2.1⟩

theorem specDo_any (x : BlT) (hb hc : Nat) (kd id : Int) (who tt : ByteArray) (num many : Int) (w : World) (hO : OwnV w hb (strs x.2.2.2.2)) (hl : x.2.2.2.2.length ≤ hc) (hm : hc ≤ maxLen) (hn : x.2.2.2.2.length ≤ 1048576) (hx : (x.2.2.2.2.length : Int) = x.2.2.2.1) (ho : opB (kd, id, who, tt, num, many) = true) (h1 : kd ≠ 1) :
    Calls Try.prog 42 #[vBill x.1 x.2.1 x.2.2.1 x.2.2.2.1 (.slice (some ⟨hb, 0, none⟩) x.2.2.2.2.length hc), vBillOp kd id who tt num many] w fun e w' => DoS x hb hc w (passV x (kd, id, who, tt, num, many)) e w' := by
  obtain ⟨xi, sh, od, mn, H⟩ := x
  dsimp only at hO hl hn hx ⊢
  subst hx
  have hk := op_kind ho
  dsimp only at hk
  have hw : nameB who = true := by
    unfold opB at ho
    simp only [Bool.and_eq_true] at ho
    exact ho.1.2
  by_cases k2 : kd = 2
  · subst k2
    exact specDo2_any xi sh od hb hc H id who tt num many w hO hl hm hw
  by_cases k3 : kd = 3
  · subst k3
    exact specDo3_any xi sh od hb hc H id who tt num many w hO hl hm hn
  by_cases k4 : kd = 4
  · subst k4
    exact specDo4_any xi sh od hb hc H id who tt num many w hO hl hm hn
  have k5 : kd = 5 := by omega
  subst k5
  have hmm := op_many ho (Or.inr rfl)
  dsimp only at hmm
  obtain ⟨m, rfl⟩ := Int.eq_ofNat_of_zero_le (show 0 ≤ many by omega)
  exact specDo5_any xi sh od hb hc H id who tt num m w hO hl hm (by omega)

end Go.Proofs.Ytdcbonfhakdhhaa
