/- Words for the walks of stage 21's laws. Written by wip/mk21.py. -/
import Derived.Test.YtjpogaidcmndoaaPaD
import Derived.Test.YtjpogaidcmndoaaPaE
import Derived.Test.YtjpogaidcmndoaaWalkA
namespace Go.Proofs.Ytjpogaidcmndoaa
open Go.RowKit

theorem OwnV.sIn {V : World} {g : Nat} {L : List ByteArray} (h : OwnV V g (strs L)) (hL : L.length ≤ 1048576) : SIn V (.slice (some ⟨g, 0, none⟩) L.length L.length) L :=
  ⟨_, _, rfl, Nat.le_refl _, by unfold maxLen; omega, fun i hi => ⟨g, 0, rfl, by rw [Nat.zero_add]; exact h.cell (map_get (E := Value.string) L hi)⟩⟩
theorem OwnV.ptIn {V : World} {g1 g2 : Nat} {L T : List ByteArray} (h1 : OwnV V g1 (strs L)) (h2 : OwnV V g2 (strs T)) (hL : L.length ≤ 1048576) (hT : T.length ≤ 1048576) : PtIn V (.slice (some ⟨g1, 0, none⟩) L.length L.length) (.slice (some ⟨g2, 0, none⟩) T.length T.length) L T :=
  ⟨h1.sIn hL, h2.sIn hT⟩
/-- What lies below is kept through a draw ahead of it. -/
theorem below_undrewA {W W' : World} (hb : Below W.drew.heap.size W.drew W') : Below W.heap.size W W' := ⟨hb.os, hb.tape, hb.output, hb.size, hb.block⟩

end Go.Proofs.Ytjpogaidcmndoaa
