/- The stable sort's symMerge, whole. Written by wip/mkly.py. -/
import Derived.Test.YtogoknldhimgfaaBvD2
namespace Go.Proofs.Ytogoknldhimgfaa
open Go.RowKit

theorem sym_ind : ∀ s : Nat, ∀ (g gb gr cb n cap a m b : Nat) (r D : List Int) (w : World), Keys w g gb gr cb r → OwnV w g (ints D) → D.length = n → a < m → m < b → b ≤ n → n ≤ 1000 → n ≤ cap → cap ≤ 1048576 → Vals r D → Mrg r D a m b → b - a ≤ s →
    Calls Try.prog 92 #[.slice (some ⟨g, 0, none⟩) n cap, .int .i64 (a : Int), .int .i64 (m : Int), .int .i64 (b : Int), cmpF gb] w (RowAns g w (Mgd r D a b)) := by
  intro s
  induction s with
  | zero =>
    intro g gb gr cb n cap a m b r D w hk h hn ham hmb
    omega
  | succ s ih =>
    intro g gb gr cb n cap a m b r D w hk h hn ham hmb hbn hn1 hc hcm hv hM hs
    by_cases h0 : m = a + 1
    · exact symFirst_any g gb gr cb n cap a m b r D w hk h hn ham hmb hbn hn1 hc hcm hv hM h0
    by_cases h1 : b = m + 1
    · exact symLast_any g gb gr cb n cap a m b r D w hk h hn ham hmb hbn hn1 hc hcm hv hM h0 h1
    have hIH : ∀ (a' m' b' : Nat) (E : List Int) (W : World), b' - a' < b - a → Keys W g gb gr cb r → OwnV W g (ints E) → E.length = n → a' < m' → m' < b' → b' ≤ n → Vals r E → Mrg r E a' m' b' → Calls Try.prog 92 #[.slice (some ⟨g, 0, none⟩) n cap, .int .i64 (a' : Int), .int .i64 (m' : Int), .int .i64 (b' : Int), cmpF gb] W (RowAns g W (Mgd r E a' b')) :=
      fun a' m' b' E W k0 k1 k2 k3 k4 k5 k6 k7 k8 => ih g gb gr cb n cap a' m' b' r E W k1 k2 k3 k4 k5 k6 hn1 hc hcm k7 k8 (by omega)
    by_cases h2 : m ≤ (a + b) / 2
    · exact symLow_any g gb gr cb n cap a m b r D w hk h hn ham hmb hbn hn1 hc hcm hv hM h0 h1 h2 hIH
    · exact symHigh_any g gb gr cb n cap a m b r D w hk h hn ham hmb hbn hn1 hc hcm hv hM h1 (by omega) hIH
theorem symMerge_any (g gb gr cb n cap a m b : Nat) (r D : List Int) (w : World) (hk : Keys w g gb gr cb r) (h : OwnV w g (ints D)) (hn : D.length = n) (ham : a < m) (hmb : m < b) (hbn : b ≤ n) (hn1 : n ≤ 1000) (hc : n ≤ cap) (hcm : cap ≤ 1048576) (hv : Vals r D) (hM : Mrg r D a m b) : Calls Try.prog 92 #[.slice (some ⟨g, 0, none⟩) n cap, .int .i64 (a : Int), .int .i64 (m : Int), .int .i64 (b : Int), cmpF gb] w (RowAns g w (Mgd r D a b)) :=
  sym_ind (b - a) g gb gr cb n cap a m b r D w hk h hn ham hmb hbn hn1 hc hcm hv hM (Nat.le_refl _)

end Go.Proofs.Ytogoknldhimgfaa
