/- Names, texts and boxes that are drawn: l1Pick, l11DrawText, l11Draw, l11DrawAny. Written by wip/mkds.py. No statement about the program stands here. -/
import Derived.Test.YtmnpeljgafmnpaaDsA
import Derived.Test.YtmnpeljgafmnpaaRBox
namespace Go.Proofs.Ytmnpeljgafmnpaa
open Go.RowKit

def numsOf (s : ByteArray) : List Int := s.data.toList.map fun b => (b.toNat : Int)
theorem numsOf_len (s : ByteArray) : (numsOf s).length = s.size := by simp [numsOf]
/-- The bytes of a text, laid anew. -/
theorem m8_bytes (w : World) (s : ByteArray) (cap : Nat) (h1 : s.size ≤ cap) (h2 : cap ≤ maxLen) : M8 (w.alloc (.cells (bytesRow s cap) 5 ((bytesRow s cap).size, (bytesRow s cap).size + 1))) w.heap.size s.size cap (numsOf s) := by
  have hs : (bytesRow s cap).size = cap := by simp [bytesRow]; omega
  refine ⟨numsOf_len s, h1, h2, bytesRow s cap, _, _, Go.Deep.blk_alloc_new _ _, hs, Or.inl (by omega), fun i hi => ?_⟩
  rw [bytesRow_at s cap i hi]
  have e := Array.getElem?_eq_getElem (show i < s.data.size from hi)
  simp [numsOf, List.getD, e]

set_option maxHeartbeats 800000 in
theorem l1PickS_any (cb n : Nat) (v : Value) (g m : Nat) (L : List ByteArray) (w : World) (h : Cur w cb v n) (hn : n ≤ 1048576) (hx : OwnV w g (L.map Value.string)) (hg : g ≠ cb) (hm : L.length = m) (hm0 : 1 ≤ m) (hm1 : m ≤ 256) :
    Calls Try.prog 63 #[.pointer (some ⟨cb, 0, none⟩), .slice (some ⟨g, 0, none⟩) m m] w fun e w' => ∃ s, e = .returned (.string s) ∧ s ∈ L ∧ Cur w' cb v n ∧ Kept (fun b => b = cb) w w' := by
  have HB := hide (l1Below_any cb n v m w h hn (by omega) (by omega))
  have HX := hide hx
  have HM := hide hm
  clear h hx hm
  go_enter Try.func63, Try.ntmps63
  go_wp2_with fail
  refine (unhide HB).mono ?_
  rintro e w1 ⟨x, rfl, hx0, hx1, hc, hk⟩
  have HC := hide hc
  have HK := hide hk
  obtain ⟨j, rfl⟩ : ∃ j : Nat, x = (j : Int) := ⟨x.toNat, by omega⟩
  have hj : j < L.length := by rw [unhide HM]; omega
  have cj := ((unhide HX).kept hk hg).cell (i := j) (v := .string L[j]) (by simp [List.getElem?_eq_getElem hj])
  have HMem := hide (List.getElem_mem hj)
  generalize L[j] = s at *
  clear hc hk hj
  go_wp2
  go_ret
  exact ⟨_, rfl, unhide HMem, unhide HC, unhide HK⟩

set_option maxRecDepth 10000 in
set_option maxHeartbeats 6400000 in
theorem l11DrawText_any (cb n : Nat) (v : Value) (w : World) (h : Cur w cb v n) (hn : n ≤ 1048576) :
    Calls Try.prog 62 #[.pointer (some ⟨cb, 0, none⟩)] w fun e w' => ∃ s : ByteArray, e = .returned (.string s) ∧ Cur w' cb v n ∧ Kept (fun b => b = cb) w w' := by
  have hcl := h.lt
  have HN := hide (l11DrawName_any cb n v w h hn)
  have HB := hide fun W (hW : Cur W cb v n) k h0 h1 => l1Below_any cb n v k W hW hn h0 h1
  have HP := hide fun W (hW : Cur W cb v n) g m L => l1PickS_any cb n v g m L W hW hn
  clear h
  go_enter Try.func62, Try.ntmps62
  go_wp2_with fail
  refine (unhide HN).mono ?_
  rintro e w1 ⟨s, rfl, hs, hc, hk⟩
  have hcv := run_bytes_of_string (P := Try.prog) w1 9 22 5 s Try.underlying9 Try.underlying22 Try.underlying5
  have hcg := grownCap_ge w1 s.size 0 5
  have hcm := grownCap_le_maxLen w1 s.size 0 5 (by rw [hs]; unfold maxLen; omega)
  have hM := m8_bytes w1.drew s (grownCap w1 s.size 0 5) hcg hcm
  generalize grownCap w1 s.size 0 5 = cap at *
  rw [hs] at hcv hM hcg
  generalize bytesRow s cap = row at *
  have hB := (Below.alloc1 w1 (.cells row 5 (row.size, row.size + 1))).drew
  have HC := hide (hc.below hB)
  have HK := hide ((hk.mono (T' := fun b => b = cb ∨ w.heap.size ≤ b) (fun _ _ h => Or.inl h)).trans (kept_of_below hB))
  have hgw : w.heap.size ≤ w1.heap.size := hk.size
  have HM : Hid (M8 (w1.alloc (.cells row 5 (row.size, row.size + 1))).drew w1.heap.size 11 cap (numsOf s)) := hM.of_block rfl
  generalize numsOf s = X at *
  clear hs hc hk hM hB HN
  go_wp2_with fail
  clear hcv
  generalize (w1.alloc (.cells row 5 (row.size, row.size + 1))).drew = V at *
  obtain ⟨g, eg⟩ : ∃ g, g = w1.heap.size := ⟨_, rfl⟩
  rw [← eg] at HM hgw ⊢
  clear eg
  refine (unhide HB _ (unhide HC) _ (by omega) (by omega)).mono ?_
  rintro e w2 ⟨kx, rfl, hk0, hk1, hc, hk⟩
  have hgl := (unhide HM).lt
  replace HM := hide ((unhide HM).kept hk (by omega))
  replace HC := hide hc
  replace HK := hide ((unhide HK).trans (hk.mono (fun _ _ h => Or.inl h)))
  clear hc hk
  obtain ⟨k, rfl⟩ : ∃ k : Nat, kx = (k : Int) := ⟨kx.toNat, by omega⟩
  go_wp2_with fail
  refine (unhide HB _ (unhide HC) _ (by omega) (by omega)).mono ?_
  rintro e w3 ⟨x, rfl, hx0, hx1, hc, hk⟩
  have hgl := (unhide HM).lt
  replace HM := hide ((unhide HM).kept hk (by omega))
  replace HC := hide hc
  replace HK := hide ((unhide HK).trans (hk.mono (fun _ _ h => Or.inl h)))
  have hcl3 := (unhide HC).lt
  have hgl3 := (unhide HM).lt
  have hsz3 := (unhide HK).size
  clear hc hk
  have hxx : x = 0 ∨ x = 1 ∨ x = 2 ∨ x = 3 ∨ x = 4 := by omega
  have hkn : k < 11 := by omega
  rcases hxx with rfl | rfl | rfl | rfl | rfl
  · have hB := Below.alloc1 w3 (.cells #[.string ⟨#[97]⟩, .string ⟨#[48]⟩, .string ⟨#[90]⟩, .string ⟨#[32]⟩, .string ⟨#[53]⟩, .string ⟨#[75]⟩] 9)
    have HO : Hid (OwnV (w3.alloc (.cells #[.string ⟨#[97]⟩, .string ⟨#[48]⟩, .string ⟨#[90]⟩, .string ⟨#[32]⟩, .string ⟨#[53]⟩, .string ⟨#[75]⟩] 9)) w3.heap.size (List.map Value.string [⟨#[97]⟩, ⟨#[48]⟩, ⟨#[90]⟩, ⟨#[32]⟩, ⟨#[53]⟩, ⟨#[75]⟩])) := ownV_alloc w3 #[.string ⟨#[97]⟩, .string ⟨#[48]⟩, .string ⟨#[90]⟩, .string ⟨#[32]⟩, .string ⟨#[53]⟩, .string ⟨#[75]⟩] 9
    replace HM := hide ((unhide HM).below hB)
    replace HC := hide ((unhide HC).below hB)
    replace HK := hide ((unhide HK).trans (kept_of_below hB))
    clear hB
    go_wp2_with fail
    refine (unhide HP _ (unhide HC) _ 6 _ (unhide HO) (by omega) rfl (by omega) (by omega)).mono ?_
    rintro e w4 ⟨t, rfl, hmem, hc, hk⟩
    replace HM := hide ((unhide HM).kept hk (by omega))
    replace HK := hide ((unhide HK).trans (hk.mono (fun _ _ h => Or.inl h)))
    have hts : t.size = 1 := by
      simp only [List.mem_cons, List.not_mem_nil, or_false] at hmem
      rcases hmem with rfl | rfl | rfl | rfl | rfl | rfl <;> rfl
    have hix : ∀ V, (Instr.index 9 (.string t) (.int .i64 0)).run Try.prog V = .ok (.int .u8 (byt t 0)) V := fun V => by
      rw [run_index_string V _ _ _ _ Try.underlying9, dif_pos (by omega), ← byt_eq t 0 (by omega)]
      rfl
    generalize byt t 0 = y at *
    have c0 := (unhide HM).cell (i := k) hkn
    have f0 := (unhide HM).frozen (i := k) (by omega)
    have HMs := hide ((unhide HM).set (i := k) hkn y)
    have HCs := hide (hc.kept ((Kept.refl (fun b => b = g) w4).setCell (p := ⟨g, k, none⟩) rfl (.int .u8 y)) (fun b h => by omega))
    have HKs := hide ((unhide HK).setCell (p := ⟨g, k, none⟩) (Or.inr hgw) (.int .u8 y))
    have hcv := (unhide HMs).text cap
    have hki : (k : Int) < 11 := by omega
    clear HM HC HK hc hk hmem hts HP HO
    generalize X.getD k 0 = x0 at *
    generalize strOfNums (X.set k y) = T at *
    go_wp2
    go_ret
    exact ⟨T, rfl, unhide HCs, (unhide HKs).mono (fun b hb h => h.resolve_right (by omega))⟩
  · have hB := Below.alloc1 w3 (.cells #[.int .u8 48] 5)
    have HMa := hide ((unhide HM).below hB)
    have HCa := hide ((unhide HC).below hB)
    have HKa := hide ((unhide HK).trans (kept_of_below hB))
    have HGc : Hid ((w3.alloc (.cells #[.int .u8 48] 5)).cell? ⟨w3.heap.size, 0, none⟩ = some (.int .u8 48)) := by show _ = _; simp
    clear HM HC HK hB
    go_wp2_with (at_builtin; go_must (refine wpList_app8 _ (by rfl) _ _ rfl g 11 cap X rfl (unhide HMa) (by omega) w3.heap.size 48 1 rfl (unhide HGc) ?_); intro g1 cap1 w5 hM hK hat; have hcv := hM.text cap1; simp only [Nat.reduceAdd] at hcv; have HC1 := hide ((unhide HCa).kept hK (fun b h => by omega)); have HK1 := hide ((unhide HKa).trans (hK.mono (fun b _ h => Or.inr (by omega)))); generalize strOfNums (X ++ [48]) = T at hcv; clear hM hK hat HMa HCa HKa HGc)
    go_ret
    exact ⟨T, rfl, unhide HC1, (unhide HK1).mono (fun b hb h => h.resolve_right (by omega))⟩
  · have hcv := ((unhide HM).take (m := k) (by omega)).text cap
    have hki : (k : Int) ≤ 11 := by omega
    have hkc : (k : Int) ≤ cap := by omega
    generalize strOfNums (X.take k) = T at *
    go_wp2
    go_ret
    exact ⟨T, rfl, unhide HC, (unhide HK).mono (fun b hb h => h.resolve_right (by omega))⟩
  · go_wp2_with fail
    refine (unhide HB _ (unhide HC) _ (by omega) (by omega)).mono ?_
    rintro e w4 ⟨x, rfl, hx0, hx1, hc, hk⟩
    replace HM := hide ((unhide HM).kept hk (by omega))
    replace HK := hide ((unhide HK).trans (hk.mono (fun _ _ h => Or.inl h)))
    have q1 : IntKind.i64.wrap (48 + x) = 48 + x := by rw [IntKind.wrap_i64]; omega
    have q2 : IntKind.u8.wrap (48 + x) = 48 + x := wrap8d (by omega) (by omega)
    have c0 := (unhide HM).cell (i := 10) (by omega)
    have f0 := (unhide HM).frozen (i := 10) (by omega)
    have HMs := hide ((unhide HM).set (i := 10) (by omega) (48 + x))
    have HCs := hide (hc.kept ((Kept.refl (fun b => b = g) w4).setCell (p := ⟨g, 10, none⟩) rfl (.int .u8 (48 + x))) (fun b h => by omega))
    have HKs := hide ((unhide HK).setCell (p := ⟨g, 10, none⟩) (Or.inr hgw) (.int .u8 (48 + x)))
    have hcv := (unhide HMs).text cap
    clear HM HC HK hc hk
    generalize X.getD 10 0 = x0 at *
    generalize strOfNums (X.set 10 (48 + x)) = T at *
    go_wp2
    go_ret
    exact ⟨T, rfl, unhide HCs, (unhide HKs).mono (fun b hb h => h.resolve_right (by omega))⟩
  · have hcv := (unhide HM).text cap
    generalize strOfNums X = T at *
    go_wp2
    go_ret
    exact ⟨T, rfl, unhide HC, (unhide HK).mono (fun b hb h => h.resolve_right (by omega))⟩

end Go.Proofs.Ytmnpeljgafmnpaa
