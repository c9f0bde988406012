/- The frontier: its box and its row; where the heap's interface finds the frontier's methods. No statement about the program stands here. -/
import Derived.Test.YtdpcacfgbjllhaaHpB
namespace Go.Proofs.Ytdpcacfgbjllhaa
open Go.RowKit

/-- The frontier at block gf: its slice at block g, the reaches L. -/
structure Fr (W : World) (B gf g n cap : Nat) (L : List Rc) : Prop where
  box : OwnV W gf [.slice (some ⟨g, 0, none⟩) n cap]
  row : W.ownsRow B 64 2 (.slice (some ⟨g, 0, none⟩) n cap) n (recCells 2 e2 L)
  len : n = L.length
  ne : gf ≠ g
theorem Fr.recs {W : World} {B gf g n cap : Nat} {L : List Rc} (h : Fr W B gf g n cap L) : R2 W (.slice (some ⟨g, 0, none⟩) n cap) L := by
  obtain ⟨-, hO⟩ := ownsRow_ownG h.row
  have hl := h.len
  obtain ⟨_, h2⟩ := h.row
  rcases h2 with ⟨hv, _⟩ | ⟨g', cap', cur, hv, hg, hh, hc, hm, hs, ht⟩
  · cases hv
  · simp only [Value.slice.injEq, Option.some.injEq, Addr.mk.injEq, and_true, true_and] at hv
    obtain ⟨rfl, rfl⟩ := hv
    subst hl
    exact OwnV.recsIn hO hc hm
theorem Fr.bd {W W' : World} {B gf g n cap : Nat} {L : List Rc} (h : Fr W B gf g n cap L) (hb : Bd W W') : Fr W' B gf g n cap L := ⟨h.box.step hb.below, ownsRow_below h.row hb.below, h.len, h.ne⟩

set_option maxRecDepth 100000 in
theorem Try.methLess : (Try.prog.info? 57).map (fun i => (i.methods.find? (·.name == "Less")).map (fun m => (m.path, m.func))) = some (some (#[⟨61, 0, true⟩], some (85, false))) := by kernel_rfl
theorem methLess {W : World} {gf : Nat} {v : Value} (hc : W.cell? ⟨gf, 0, none⟩ = some v) : (method 229 57 (.pointer (some ⟨gf, 0, none⟩)) "Less").run Try.prog W = .ok (85, v) W := by
  obtain ⟨i, hi, h2⟩ := Option.map_eq_some_iff.1 Try.methLess
  obtain ⟨m, hm, h3⟩ := Option.map_eq_some_iff.1 h2
  simp only [Prod.mk.injEq] at h3
  obtain ⟨hp, hf⟩ := h3
  unfold method
  simp [typeInfo, hi, hm, hp, hf, follow, go_sem, Place.get, receiverAt, hc]
set_option maxRecDepth 100000 in
theorem Try.methSwap : (Try.prog.info? 57).map (fun i => (i.methods.find? (·.name == "Swap")).map (fun m => (m.path, m.func))) = some (some (#[⟨61, 0, true⟩], some (88, false))) := by kernel_rfl
theorem methSwap {W : World} {gf : Nat} {v : Value} (hc : W.cell? ⟨gf, 0, none⟩ = some v) : (method 229 57 (.pointer (some ⟨gf, 0, none⟩)) "Swap").run Try.prog W = .ok (88, v) W := by
  obtain ⟨i, hi, h2⟩ := Option.map_eq_some_iff.1 Try.methSwap
  obtain ⟨m, hm, h3⟩ := Option.map_eq_some_iff.1 h2
  simp only [Prod.mk.injEq] at h3
  obtain ⟨hp, hf⟩ := h3
  unfold method
  simp [typeInfo, hi, hm, hp, hf, follow, go_sem, Place.get, receiverAt, hc]
set_option maxRecDepth 100000 in
theorem Try.methLen : (Try.prog.info? 57).map (fun i => (i.methods.find? (·.name == "Len")).map (fun m => (m.path, m.func))) = some (some (#[⟨61, 0, true⟩], some (33, false))) := by kernel_rfl
theorem methLen {W : World} {gf : Nat} {v : Value} (hc : W.cell? ⟨gf, 0, none⟩ = some v) : (method 229 57 (.pointer (some ⟨gf, 0, none⟩)) "Len").run Try.prog W = .ok (33, v) W := by
  obtain ⟨i, hi, h2⟩ := Option.map_eq_some_iff.1 Try.methLen
  obtain ⟨m, hm, h3⟩ := Option.map_eq_some_iff.1 h2
  simp only [Prod.mk.injEq] at h3
  obtain ⟨hp, hf⟩ := h3
  unfold method
  simp [typeInfo, hi, hm, hp, hf, follow, go_sem, Place.get, receiverAt, hc]
set_option maxRecDepth 100000 in
theorem Try.methPush : (Try.prog.info? 57).map (fun i => (i.methods.find? (·.name == "Push")).map (fun m => (m.path, m.func))) = some (some (#[], some (87, true))) := by kernel_rfl
theorem methPush (W : World) (gf : Nat) : (method 229 57 (.pointer (some ⟨gf, 0, none⟩)) "Push").run Try.prog W = .ok (87, .pointer (some ⟨gf, 0, none⟩)) W := by
  obtain ⟨i, hi, h2⟩ := Option.map_eq_some_iff.1 Try.methPush
  obtain ⟨m, hm, h3⟩ := Option.map_eq_some_iff.1 h2
  simp only [Prod.mk.injEq] at h3
  obtain ⟨hp, hf⟩ := h3
  unfold method
  simp [typeInfo, hi, hm, hp, hf, follow, go_sem, Place.get, receiverAt]
set_option maxRecDepth 100000 in
theorem Try.methPop : (Try.prog.info? 57).map (fun i => (i.methods.find? (·.name == "Pop")).map (fun m => (m.path, m.func))) = some (some (#[], some (86, true))) := by kernel_rfl
theorem methPop (W : World) (gf : Nat) : (method 229 57 (.pointer (some ⟨gf, 0, none⟩)) "Pop").run Try.prog W = .ok (86, .pointer (some ⟨gf, 0, none⟩)) W := by
  obtain ⟨i, hi, h2⟩ := Option.map_eq_some_iff.1 Try.methPop
  obtain ⟨m, hm, h3⟩ := Option.map_eq_some_iff.1 h2
  simp only [Prod.mk.injEq] at h3
  obtain ⟨hp, hf⟩ := h3
  unfold method
  simp [typeInfo, hi, hm, hp, hf, follow, go_sem, Place.get, receiverAt]

end Go.Proofs.Ytdpcacfgbjllhaa
