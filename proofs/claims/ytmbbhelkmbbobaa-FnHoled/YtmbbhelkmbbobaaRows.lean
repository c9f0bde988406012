/-
  No cell of these rows narrows 'for every input' (looked for: loops, veiled, ifaces, maps, wideKeys, modest, calm, conditions, laid).
  DERIVED. THE GIVEN ROWS OF THIS SEAT. 9 by the template 'for every input the law returns true; each argument reads behind the call as it read before'; 0 by the template 'total and deterministic' (their statements: YtmbbhelkmbbobaaTotals.lean).
  GIVEN WITH THE SEED: the statements are not yours to turn. If you find one false, say at which input.
  Laid BY PROGRAM, IN A SANDBOX (cutbox-rows.mjs): the forced cells as the released guide's own fill.sh prints them over the translation 874d41a2b95df523… (all of the seat's roots in one cut). By AI agents, Wed Nov 11 2026. No macro, syntax, notation, axiom, sorry.
-/
import Derived.Test.YtmbbhelkmbbobaaChecked
import GoSem.Claim
import GoSem.ClaimJoined
import GoSem.ClaimMapViews
import Derived.JoinedTies
import Derived.KernelRfl
namespace Go.Proofs.Ytmbbhelkmbbobaa
/- THE CELL 'sum', in the pinned program and in every row, IS THE sha256 OF THE DUMP (.gsa) THAT YtmbbhelkmbbobaaProg.lean LOADS. Nothing in Lean hashes anything: it is a label: what it is worth is what the hold of that sum in a sandbox is worth. -/
noncomputable def Try.pinned : Pinned := { name := "ytmbbhelkmbbobaa", sum := "874d41a2b95df523015a5aac42c6b19d897551e9b695911ce357739fc28d85b7", checked := Try.checked }
namespace Rows
def none {H : Type} : Left H := { results := [], args := [] }

/-- 'laws.FnRaised': WHATEVER THE INPUT: true; the input reads as it did. -/
def fnRaisedSpec : ChangeSpec := { name := "fnRaised", fn := fun _ => fun
  | [d] => { results := [.lit (.bool true)], args := [d] }
  | _ => none }
def fnRaisedRow : OpenClaim := { program := "ytmbbhelkmbbobaa", sum := "874d41a2b95df523015a5aac42c6b19d897551e9b695911ce357739fc28d85b7", func := "loop.example/g00059/laws.FnRaised", spec := "fnRaised", apart := false }
def FnRaisedSaid : Prop := fnRaisedRow.holds Try.pinned (OpenSpec.ofChange fnRaisedSpec)

/-- ITS FALSE NEIGHBOUR: 'it returns false'. Refute it at one input. -/
def fnRaisedWrong : ChangeSpec := { name := "fnRaised", fn := fun _ => fun
  | [d] => { results := [.lit (.bool false)], args := [d] }
  | _ => none }
def FnRaisedWrongFalsely : Prop := fnRaisedRow.holds Try.pinned (OpenSpec.ofChange fnRaisedWrong)

/-- 'laws.FnHoled': WHATEVER THE INPUT: true; the input reads as it did. -/
def fnHoledSpec : ChangeSpec := { name := "fnHoled", fn := fun _ => fun
  | [d] => { results := [.lit (.bool true)], args := [d] }
  | _ => none }
def fnHoledRow : OpenClaim := { program := "ytmbbhelkmbbobaa", sum := "874d41a2b95df523015a5aac42c6b19d897551e9b695911ce357739fc28d85b7", func := "loop.example/g00059/laws.FnHoled", spec := "fnHoled", apart := false }
def FnHoledSaid : Prop := fnHoledRow.holds Try.pinned (OpenSpec.ofChange fnHoledSpec)

/-- ITS FALSE NEIGHBOUR: 'it returns false'. Refute it at one input. -/
def fnHoledWrong : ChangeSpec := { name := "fnHoled", fn := fun _ => fun
  | [d] => { results := [.lit (.bool false)], args := [d] }
  | _ => none }
def FnHoledWrongFalsely : Prop := fnHoledRow.holds Try.pinned (OpenSpec.ofChange fnHoledWrong)

/-- 'laws.FnExactMassesOk': WHATEVER THE INPUT: true; the input reads as it did. -/
def fnExactMassesOkSpec : ChangeSpec := { name := "fnExactMassesOk", fn := fun _ => fun
  | [d] => { results := [.lit (.bool true)], args := [d] }
  | _ => none }
def fnExactMassesOkRow : OpenClaim := { program := "ytmbbhelkmbbobaa", sum := "874d41a2b95df523015a5aac42c6b19d897551e9b695911ce357739fc28d85b7", func := "loop.example/g00059/laws.FnExactMassesOk", spec := "fnExactMassesOk", apart := false }
def FnExactMassesOkSaid : Prop := fnExactMassesOkRow.holds Try.pinned (OpenSpec.ofChange fnExactMassesOkSpec)

/-- ITS FALSE NEIGHBOUR: 'it returns false'. Refute it at one input. -/
def fnExactMassesOkWrong : ChangeSpec := { name := "fnExactMassesOk", fn := fun _ => fun
  | [d] => { results := [.lit (.bool false)], args := [d] }
  | _ => none }
def FnExactMassesOkWrongFalsely : Prop := fnExactMassesOkRow.holds Try.pinned (OpenSpec.ofChange fnExactMassesOkWrong)

/-- 'laws.FnExactLoadOf': WHATEVER THE INPUT: true; the input reads as it did. -/
def fnExactLoadOfSpec : ChangeSpec := { name := "fnExactLoadOf", fn := fun _ => fun
  | [d] => { results := [.lit (.bool true)], args := [d] }
  | _ => none }
def fnExactLoadOfRow : OpenClaim := { program := "ytmbbhelkmbbobaa", sum := "874d41a2b95df523015a5aac42c6b19d897551e9b695911ce357739fc28d85b7", func := "loop.example/g00059/laws.FnExactLoadOf", spec := "fnExactLoadOf", apart := false }
def FnExactLoadOfSaid : Prop := fnExactLoadOfRow.holds Try.pinned (OpenSpec.ofChange fnExactLoadOfSpec)

/-- ITS FALSE NEIGHBOUR: 'it returns false'. Refute it at one input. -/
def fnExactLoadOfWrong : ChangeSpec := { name := "fnExactLoadOf", fn := fun _ => fun
  | [d] => { results := [.lit (.bool false)], args := [d] }
  | _ => none }
def FnExactLoadOfWrongFalsely : Prop := fnExactLoadOfRow.holds Try.pinned (OpenSpec.ofChange fnExactLoadOfWrong)

/-- 'laws.FnExactMetacentre': WHATEVER THE INPUT: true; the input reads as it did. -/
def fnExactMetacentreSpec : ChangeSpec := { name := "fnExactMetacentre", fn := fun _ => fun
  | [d1, d2, d3, d4] => { results := [.lit (.bool true)], args := [d1, d2, d3, d4] }
  | _ => none }
def fnExactMetacentreRow : OpenClaim := { program := "ytmbbhelkmbbobaa", sum := "874d41a2b95df523015a5aac42c6b19d897551e9b695911ce357739fc28d85b7", func := "loop.example/g00059/laws.FnExactMetacentre", spec := "fnExactMetacentre", apart := false }
def FnExactMetacentreSaid : Prop := fnExactMetacentreRow.holds Try.pinned (OpenSpec.ofChange fnExactMetacentreSpec)

/-- ITS FALSE NEIGHBOUR: 'it returns false'. Refute it at one input. -/
def fnExactMetacentreWrong : ChangeSpec := { name := "fnExactMetacentre", fn := fun _ => fun
  | [d1, d2, d3, d4] => { results := [.lit (.bool false)], args := [d1, d2, d3, d4] }
  | _ => none }
def FnExactMetacentreWrongFalsely : Prop := fnExactMetacentreRow.holds Try.pinned (OpenSpec.ofChange fnExactMetacentreWrong)

/-- 'laws.FnExactRoomsOk': WHATEVER THE INPUT: true; the input reads as it did. -/
def fnExactRoomsOkSpec : ChangeSpec := { name := "fnExactRoomsOk", fn := fun _ => fun
  | [d1, d2] => { results := [.lit (.bool true)], args := [d1, d2] }
  | _ => none }
def fnExactRoomsOkRow : OpenClaim := { program := "ytmbbhelkmbbobaa", sum := "874d41a2b95df523015a5aac42c6b19d897551e9b695911ce357739fc28d85b7", func := "loop.example/g00059/laws.FnExactRoomsOk", spec := "fnExactRoomsOk", apart := false }
def FnExactRoomsOkSaid : Prop := fnExactRoomsOkRow.holds Try.pinned (OpenSpec.ofChange fnExactRoomsOkSpec)

/-- ITS FALSE NEIGHBOUR: 'it returns false'. Refute it at one input. -/
def fnExactRoomsOkWrong : ChangeSpec := { name := "fnExactRoomsOk", fn := fun _ => fun
  | [d1, d2] => { results := [.lit (.bool false)], args := [d1, d2] }
  | _ => none }
def FnExactRoomsOkWrongFalsely : Prop := fnExactRoomsOkRow.holds Try.pinned (OpenSpec.ofChange fnExactRoomsOkWrong)

/-- 'laws.FnExactFlood': WHATEVER THE INPUT: true; the input reads as it did. -/
def fnExactFloodSpec : ChangeSpec := { name := "fnExactFlood", fn := fun _ => fun
  | [d1, d2] => { results := [.lit (.bool true)], args := [d1, d2] }
  | _ => none }
def fnExactFloodRow : OpenClaim := { program := "ytmbbhelkmbbobaa", sum := "874d41a2b95df523015a5aac42c6b19d897551e9b695911ce357739fc28d85b7", func := "loop.example/g00059/laws.FnExactFlood", spec := "fnExactFlood", apart := false }
def FnExactFloodSaid : Prop := fnExactFloodRow.holds Try.pinned (OpenSpec.ofChange fnExactFloodSpec)

/-- ITS FALSE NEIGHBOUR: 'it returns false'. Refute it at one input. -/
def fnExactFloodWrong : ChangeSpec := { name := "fnExactFlood", fn := fun _ => fun
  | [d1, d2] => { results := [.lit (.bool false)], args := [d1, d2] }
  | _ => none }
def FnExactFloodWrongFalsely : Prop := fnExactFloodRow.holds Try.pinned (OpenSpec.ofChange fnExactFloodWrong)

/-- 'laws.FnExactStands': WHATEVER THE INPUT: true; the input reads as it did. -/
def fnExactStandsSpec : ChangeSpec := { name := "fnExactStands", fn := fun _ => fun
  | [d1, d2, d3, d4, d5] => { results := [.lit (.bool true)], args := [d1, d2, d3, d4, d5] }
  | _ => none }
def fnExactStandsRow : OpenClaim := { program := "ytmbbhelkmbbobaa", sum := "874d41a2b95df523015a5aac42c6b19d897551e9b695911ce357739fc28d85b7", func := "loop.example/g00059/laws.FnExactStands", spec := "fnExactStands", apart := false }
def FnExactStandsSaid : Prop := fnExactStandsRow.holds Try.pinned (OpenSpec.ofChange fnExactStandsSpec)

/-- ITS FALSE NEIGHBOUR: 'it returns false'. Refute it at one input. -/
def fnExactStandsWrong : ChangeSpec := { name := "fnExactStands", fn := fun _ => fun
  | [d1, d2, d3, d4, d5] => { results := [.lit (.bool false)], args := [d1, d2, d3, d4, d5] }
  | _ => none }
def FnExactStandsWrongFalsely : Prop := fnExactStandsRow.holds Try.pinned (OpenSpec.ofChange fnExactStandsWrong)

/-- 'laws.FnExactFirstBad': WHATEVER THE INPUT: true; the input reads as it did. -/
def fnExactFirstBadSpec : ChangeSpec := { name := "fnExactFirstBad", fn := fun _ => fun
  | [d1, d2, d3, d4, d5] => { results := [.lit (.bool true)], args := [d1, d2, d3, d4, d5] }
  | _ => none }
def fnExactFirstBadRow : OpenClaim := { program := "ytmbbhelkmbbobaa", sum := "874d41a2b95df523015a5aac42c6b19d897551e9b695911ce357739fc28d85b7", func := "loop.example/g00059/laws.FnExactFirstBad", spec := "fnExactFirstBad", apart := false }
def FnExactFirstBadSaid : Prop := fnExactFirstBadRow.holds Try.pinned (OpenSpec.ofChange fnExactFirstBadSpec)

/-- ITS FALSE NEIGHBOUR: 'it returns false'. Refute it at one input. -/
def fnExactFirstBadWrong : ChangeSpec := { name := "fnExactFirstBad", fn := fun _ => fun
  | [d1, d2, d3, d4, d5] => { results := [.lit (.bool false)], args := [d1, d2, d3, d4, d5] }
  | _ => none }
def FnExactFirstBadWrongFalsely : Prop := fnExactFirstBadRow.holds Try.pinned (OpenSpec.ofChange fnExactFirstBadWrong)

/- THE SECOND FORM. 'bulk': how many values and letters a reading holds, each counted each time it is reached (what is shared counts as often as it is met; a slice's spare places count too). A statement '..UptoSaid' is the law's where the arguments, and the package variables that the reading takes, are together of bulk at most 1048576: NARROWER than '..Said'. Prove '..Said' where nothing that the law and all that it calls make is longer than what came in: it says more and counts as full. Else prove '..UptoSaid'. A law counts once. -/
mutual
def uptoBulk {H : Type} : DataW H → Nat
  | .lit (.string bytes) => bytes.length + 1
  | .lit _ => 1
  | .nil => 1
  | .ptr d => uptoBulk d + 1
  | .slice elems spare => uptoBulkAll elems + uptoBulkAll spare + 1
  | .agg parts => uptoBulkAll parts + 1
  | .iface _ d => uptoBulk d + 1
  | .map entries => uptoBulkEntries entries + 1
  | .held _ => 1
def uptoBulkAll {H : Type} : List (DataW H) → Nat
  | [] => 0
  | d :: r => uptoBulk d + uptoBulkAll r
def uptoBulkEntries {H : Type} : List (Lit × DataW H) → Nat
  | [] => 0
  | x :: r => uptoBulkEntry x + uptoBulkEntries r
def uptoBulkEntry {H : Type} : Lit × DataW H → Nat
  | (.string bytes, d) => bytes.length + uptoBulk d + 1
  | (_, d) => uptoBulk d + 1
 end
def uptoSmall : (H : Type) → List (DataW H) → Bool := fun _ ds => decide (uptoBulkAll ds ≤ 1048576)
def OpenSpec.upto (s : _root_.Go.ChangeSpec) : _root_.Go.OpenSpec := { _root_.Go.OpenSpec.ofChange s with cond := some uptoSmall }

/-- 'laws.FnRaised', WHERE WHAT IT READS IS OF BULK AT MOST 1048576: true; the input reads as it did. -/
def fnRaisedUptoRow : OpenClaim := { program := "ytmbbhelkmbbobaa", sum := "874d41a2b95df523015a5aac42c6b19d897551e9b695911ce357739fc28d85b7", func := "loop.example/g00059/laws.FnRaised", spec := "fnRaised", apart := false, narrowed := true }
def FnRaisedUptoSaid : Prop := fnRaisedUptoRow.holds Try.pinned (OpenSpec.upto fnRaisedSpec)

/-- 'laws.FnHoled', WHERE WHAT IT READS IS OF BULK AT MOST 1048576: true; the input reads as it did. -/
def fnHoledUptoRow : OpenClaim := { program := "ytmbbhelkmbbobaa", sum := "874d41a2b95df523015a5aac42c6b19d897551e9b695911ce357739fc28d85b7", func := "loop.example/g00059/laws.FnHoled", spec := "fnHoled", apart := false, narrowed := true }
def FnHoledUptoSaid : Prop := fnHoledUptoRow.holds Try.pinned (OpenSpec.upto fnHoledSpec)

/-- 'laws.FnExactMassesOk', WHERE WHAT IT READS IS OF BULK AT MOST 1048576: true; the input reads as it did. -/
def fnExactMassesOkUptoRow : OpenClaim := { program := "ytmbbhelkmbbobaa", sum := "874d41a2b95df523015a5aac42c6b19d897551e9b695911ce357739fc28d85b7", func := "loop.example/g00059/laws.FnExactMassesOk", spec := "fnExactMassesOk", apart := false, narrowed := true }
def FnExactMassesOkUptoSaid : Prop := fnExactMassesOkUptoRow.holds Try.pinned (OpenSpec.upto fnExactMassesOkSpec)

/-- 'laws.FnExactLoadOf', WHERE WHAT IT READS IS OF BULK AT MOST 1048576: true; the input reads as it did. -/
def fnExactLoadOfUptoRow : OpenClaim := { program := "ytmbbhelkmbbobaa", sum := "874d41a2b95df523015a5aac42c6b19d897551e9b695911ce357739fc28d85b7", func := "loop.example/g00059/laws.FnExactLoadOf", spec := "fnExactLoadOf", apart := false, narrowed := true }
def FnExactLoadOfUptoSaid : Prop := fnExactLoadOfUptoRow.holds Try.pinned (OpenSpec.upto fnExactLoadOfSpec)

/-- 'laws.FnExactMetacentre', WHERE WHAT IT READS IS OF BULK AT MOST 1048576: true; the input reads as it did. -/
def fnExactMetacentreUptoRow : OpenClaim := { program := "ytmbbhelkmbbobaa", sum := "874d41a2b95df523015a5aac42c6b19d897551e9b695911ce357739fc28d85b7", func := "loop.example/g00059/laws.FnExactMetacentre", spec := "fnExactMetacentre", apart := false, narrowed := true }
def FnExactMetacentreUptoSaid : Prop := fnExactMetacentreUptoRow.holds Try.pinned (OpenSpec.upto fnExactMetacentreSpec)

/-- 'laws.FnExactRoomsOk', WHERE WHAT IT READS IS OF BULK AT MOST 1048576: true; the input reads as it did. -/
def fnExactRoomsOkUptoRow : OpenClaim := { program := "ytmbbhelkmbbobaa", sum := "874d41a2b95df523015a5aac42c6b19d897551e9b695911ce357739fc28d85b7", func := "loop.example/g00059/laws.FnExactRoomsOk", spec := "fnExactRoomsOk", apart := false, narrowed := true }
def FnExactRoomsOkUptoSaid : Prop := fnExactRoomsOkUptoRow.holds Try.pinned (OpenSpec.upto fnExactRoomsOkSpec)

/-- 'laws.FnExactFlood', WHERE WHAT IT READS IS OF BULK AT MOST 1048576: true; the input reads as it did. -/
def fnExactFloodUptoRow : OpenClaim := { program := "ytmbbhelkmbbobaa", sum := "874d41a2b95df523015a5aac42c6b19d897551e9b695911ce357739fc28d85b7", func := "loop.example/g00059/laws.FnExactFlood", spec := "fnExactFlood", apart := false, narrowed := true }
def FnExactFloodUptoSaid : Prop := fnExactFloodUptoRow.holds Try.pinned (OpenSpec.upto fnExactFloodSpec)

/-- 'laws.FnExactStands', WHERE WHAT IT READS IS OF BULK AT MOST 1048576: true; the input reads as it did. -/
def fnExactStandsUptoRow : OpenClaim := { program := "ytmbbhelkmbbobaa", sum := "874d41a2b95df523015a5aac42c6b19d897551e9b695911ce357739fc28d85b7", func := "loop.example/g00059/laws.FnExactStands", spec := "fnExactStands", apart := false, narrowed := true }
def FnExactStandsUptoSaid : Prop := fnExactStandsUptoRow.holds Try.pinned (OpenSpec.upto fnExactStandsSpec)

/-- 'laws.FnExactFirstBad', WHERE WHAT IT READS IS OF BULK AT MOST 1048576: true; the input reads as it did. -/
def fnExactFirstBadUptoRow : OpenClaim := { program := "ytmbbhelkmbbobaa", sum := "874d41a2b95df523015a5aac42c6b19d897551e9b695911ce357739fc28d85b7", func := "loop.example/g00059/laws.FnExactFirstBad", spec := "fnExactFirstBad", apart := false, narrowed := true }
def FnExactFirstBadUptoSaid : Prop := fnExactFirstBadUptoRow.holds Try.pinned (OpenSpec.upto fnExactFirstBadSpec)

end Rows
end Go.Proofs.Ytmbbhelkmbbobaa
