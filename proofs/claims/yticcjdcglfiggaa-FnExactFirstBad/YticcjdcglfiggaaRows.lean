/-
  No cell of these rows narrows 'for every input' (looked for: loops, veiled, ifaces, maps, wideKeys, modest, calm, conditions, laid).
  DERIVED. THE GIVEN ROWS OF THIS SEAT. 6 by the template 'for every input the law returns true; each argument reads behind the call as it read before'; 0 by the template 'total and deterministic' (their statements: YticcjdcglfiggaaTotals.lean).
  GIVEN WITH THE SEED: the statements are not yours to turn. If you find one false, say at which input.
  Laid BY PROGRAM, IN A SANDBOX (cutbox-rows.mjs): the forced cells as the released guide's own fill.sh prints them over the translation 9382db350077dedd… (all of the seat's roots in one cut). By AI agents, Wed Nov 11 2026. No macro, syntax, notation, axiom, sorry.
-/
import Derived.Test.YticcjdcglfiggaaChecked
import GoSem.Claim
import GoSem.ClaimJoined
import GoSem.ClaimMapViews
import Derived.JoinedTies
import Derived.KernelRfl
namespace Go.Proofs.Yticcjdcglfiggaa
/- THE CELL 'sum', in the pinned program and in every row, IS THE sha256 OF THE DUMP (.gsa) THAT YticcjdcglfiggaaProg.lean LOADS. Nothing in Lean hashes anything: it is a label: what it is worth is what the hold of that sum in a sandbox is worth. -/
noncomputable def Try.pinned : Pinned := { name := "yticcjdcglfiggaa", sum := "9382db350077dedd9449f699d6389cf3aec89d75bf9847610a349d078f027ad5", checked := Try.checked }
namespace Rows
def none {H : Type} : Left H := { results := [], args := [] }

/-- 'laws.FnVolumes': WHATEVER THE INPUT: true; the input reads as it did. -/
def fnVolumesSpec : ChangeSpec := { name := "fnVolumes", fn := fun _ => fun
  | [d] => { results := [.lit (.bool true)], args := [d] }
  | _ => none }
def fnVolumesRow : OpenClaim := { program := "yticcjdcglfiggaa", sum := "9382db350077dedd9449f699d6389cf3aec89d75bf9847610a349d078f027ad5", func := "loop.example/g00059/laws.FnVolumes", spec := "fnVolumes", apart := false }
def FnVolumesSaid : Prop := fnVolumesRow.holds Try.pinned (OpenSpec.ofChange fnVolumesSpec)

/-- ITS FALSE NEIGHBOUR: 'it returns false'. Refute it at one input. -/
def fnVolumesWrong : ChangeSpec := { name := "fnVolumes", fn := fun _ => fun
  | [d] => { results := [.lit (.bool false)], args := [d] }
  | _ => none }
def FnVolumesWrongFalsely : Prop := fnVolumesRow.holds Try.pinned (OpenSpec.ofChange fnVolumesWrong)

/-- 'laws.FnHoled': WHATEVER THE INPUT: true; the input reads as it did. -/
def fnHoledSpec : ChangeSpec := { name := "fnHoled", fn := fun _ => fun
  | [d] => { results := [.lit (.bool true)], args := [d] }
  | _ => none }
def fnHoledRow : OpenClaim := { program := "yticcjdcglfiggaa", sum := "9382db350077dedd9449f699d6389cf3aec89d75bf9847610a349d078f027ad5", func := "loop.example/g00059/laws.FnHoled", spec := "fnHoled", apart := false }
def FnHoledSaid : Prop := fnHoledRow.holds Try.pinned (OpenSpec.ofChange fnHoledSpec)

/-- ITS FALSE NEIGHBOUR: 'it returns false'. Refute it at one input. -/
def fnHoledWrong : ChangeSpec := { name := "fnHoled", fn := fun _ => fun
  | [d] => { results := [.lit (.bool false)], args := [d] }
  | _ => none }
def FnHoledWrongFalsely : Prop := fnHoledRow.holds Try.pinned (OpenSpec.ofChange fnHoledWrong)

/-- 'laws.FnExactMirror': WHATEVER THE INPUT: true; the input reads as it did. -/
def fnExactMirrorSpec : ChangeSpec := { name := "fnExactMirror", fn := fun _ => fun
  | [d] => { results := [.lit (.bool true)], args := [d] }
  | _ => none }
def fnExactMirrorRow : OpenClaim := { program := "yticcjdcglfiggaa", sum := "9382db350077dedd9449f699d6389cf3aec89d75bf9847610a349d078f027ad5", func := "loop.example/g00059/laws.FnExactMirror", spec := "fnExactMirror", apart := false }
def FnExactMirrorSaid : Prop := fnExactMirrorRow.holds Try.pinned (OpenSpec.ofChange fnExactMirrorSpec)

/-- ITS FALSE NEIGHBOUR: 'it returns false'. Refute it at one input. -/
def fnExactMirrorWrong : ChangeSpec := { name := "fnExactMirror", fn := fun _ => fun
  | [d] => { results := [.lit (.bool false)], args := [d] }
  | _ => none }
def FnExactMirrorWrongFalsely : Prop := fnExactMirrorRow.holds Try.pinned (OpenSpec.ofChange fnExactMirrorWrong)

/-- 'laws.FnExactFlood': WHATEVER THE INPUT: true; the input reads as it did. -/
def fnExactFloodSpec : ChangeSpec := { name := "fnExactFlood", fn := fun _ => fun
  | [d1, d2] => { results := [.lit (.bool true)], args := [d1, d2] }
  | _ => none }
def fnExactFloodRow : OpenClaim := { program := "yticcjdcglfiggaa", sum := "9382db350077dedd9449f699d6389cf3aec89d75bf9847610a349d078f027ad5", func := "loop.example/g00059/laws.FnExactFlood", spec := "fnExactFlood", apart := false }
def FnExactFloodSaid : Prop := fnExactFloodRow.holds Try.pinned (OpenSpec.ofChange fnExactFloodSpec)

/-- ITS FALSE NEIGHBOUR: 'it returns false'. Refute it at one input. -/
def fnExactFloodWrong : ChangeSpec := { name := "fnExactFlood", fn := fun _ => fun
  | [d1, d2] => { results := [.lit (.bool false)], args := [d1, d2] }
  | _ => none }
def FnExactFloodWrongFalsely : Prop := fnExactFloodRow.holds Try.pinned (OpenSpec.ofChange fnExactFloodWrong)

/-- 'laws.FnExactStands': WHATEVER THE INPUT: true; the input reads as it did. -/
def fnExactStandsSpec : ChangeSpec := { name := "fnExactStands", fn := fun _ => fun
  | [d1, d2, d3, d4, d5] => { results := [.lit (.bool true)], args := [d1, d2, d3, d4, d5] }
  | _ => none }
def fnExactStandsRow : OpenClaim := { program := "yticcjdcglfiggaa", sum := "9382db350077dedd9449f699d6389cf3aec89d75bf9847610a349d078f027ad5", func := "loop.example/g00059/laws.FnExactStands", spec := "fnExactStands", apart := false }
def FnExactStandsSaid : Prop := fnExactStandsRow.holds Try.pinned (OpenSpec.ofChange fnExactStandsSpec)

/-- ITS FALSE NEIGHBOUR: 'it returns false'. Refute it at one input. -/
def fnExactStandsWrong : ChangeSpec := { name := "fnExactStands", fn := fun _ => fun
  | [d1, d2, d3, d4, d5] => { results := [.lit (.bool false)], args := [d1, d2, d3, d4, d5] }
  | _ => none }
def FnExactStandsWrongFalsely : Prop := fnExactStandsRow.holds Try.pinned (OpenSpec.ofChange fnExactStandsWrong)

/-- 'laws.FnExactFirstBad': WHATEVER THE INPUT: true; the input reads as it did. -/
def fnExactFirstBadSpec : ChangeSpec := { name := "fnExactFirstBad", fn := fun _ => fun
  | [d1, d2, d3, d4, d5] => { results := [.lit (.bool true)], args := [d1, d2, d3, d4, d5] }
  | _ => none }
def fnExactFirstBadRow : OpenClaim := { program := "yticcjdcglfiggaa", sum := "9382db350077dedd9449f699d6389cf3aec89d75bf9847610a349d078f027ad5", func := "loop.example/g00059/laws.FnExactFirstBad", spec := "fnExactFirstBad", apart := false }
def FnExactFirstBadSaid : Prop := fnExactFirstBadRow.holds Try.pinned (OpenSpec.ofChange fnExactFirstBadSpec)

/-- ITS FALSE NEIGHBOUR: 'it returns false'. Refute it at one input. -/
def fnExactFirstBadWrong : ChangeSpec := { name := "fnExactFirstBad", fn := fun _ => fun
  | [d1, d2, d3, d4, d5] => { results := [.lit (.bool false)], args := [d1, d2, d3, d4, d5] }
  | _ => none }
def FnExactFirstBadWrongFalsely : Prop := fnExactFirstBadRow.holds Try.pinned (OpenSpec.ofChange fnExactFirstBadWrong)

/- THE SECOND FORM. 'bulk': how many values and letters a reading holds, each counted each time it is reached (what is shared counts as often as it is met; a slice's spare places count too). A statement '..UptoSaid' is the law's where the arguments, and the package variables that the reading takes, are together of bulk at most 1048576: NARROWER than '..Said'. Prove '..Said' where nothing that the law and all that it calls make is longer than what came in: it says more and counts as full. Else prove '..UptoSaid'. A law counts once. -/
mutual
def uptoBulk {H : Type} : DataW H → Nat
  | .lit (.string bytes) => bytes.length + 1
  | .lit _ => 1
  | .nil => 1
  | .ptr d => uptoBulk d + 1
  | .slice elems spare => uptoBulkAll elems + uptoBulkAll spare + 1
  | .agg parts => uptoBulkAll parts + 1
  | .iface _ d => uptoBulk d + 1
  | .map entries => uptoBulkEntries entries + 1
  | .held _ => 1
def uptoBulkAll {H : Type} : List (DataW H) → Nat
  | [] => 0
  | d :: r => uptoBulk d + uptoBulkAll r
def uptoBulkEntries {H : Type} : List (Lit × DataW H) → Nat
  | [] => 0
  | x :: r => uptoBulkEntry x + uptoBulkEntries r
def uptoBulkEntry {H : Type} : Lit × DataW H → Nat
  | (.string bytes, d) => bytes.length + uptoBulk d + 1
  | (_, d) => uptoBulk d + 1
 end
def uptoSmall : (H : Type) → List (DataW H) → Bool := fun _ ds => decide (uptoBulkAll ds ≤ 1048576)
def OpenSpec.upto (s : _root_.Go.ChangeSpec) : _root_.Go.OpenSpec := { _root_.Go.OpenSpec.ofChange s with cond := some uptoSmall }

/-- 'laws.FnVolumes', WHERE WHAT IT READS IS OF BULK AT MOST 1048576: true; the input reads as it did. -/
def fnVolumesUptoRow : OpenClaim := { program := "yticcjdcglfiggaa", sum := "9382db350077dedd9449f699d6389cf3aec89d75bf9847610a349d078f027ad5", func := "loop.example/g00059/laws.FnVolumes", spec := "fnVolumes", apart := false, narrowed := true }
def FnVolumesUptoSaid : Prop := fnVolumesUptoRow.holds Try.pinned (OpenSpec.upto fnVolumesSpec)

/-- 'laws.FnHoled', WHERE WHAT IT READS IS OF BULK AT MOST 1048576: true; the input reads as it did. -/
def fnHoledUptoRow : OpenClaim := { program := "yticcjdcglfiggaa", sum := "9382db350077dedd9449f699d6389cf3aec89d75bf9847610a349d078f027ad5", func := "loop.example/g00059/laws.FnHoled", spec := "fnHoled", apart := false, narrowed := true }
def FnHoledUptoSaid : Prop := fnHoledUptoRow.holds Try.pinned (OpenSpec.upto fnHoledSpec)

/-- 'laws.FnExactMirror', WHERE WHAT IT READS IS OF BULK AT MOST 1048576: true; the input reads as it did. -/
def fnExactMirrorUptoRow : OpenClaim := { program := "yticcjdcglfiggaa", sum := "9382db350077dedd9449f699d6389cf3aec89d75bf9847610a349d078f027ad5", func := "loop.example/g00059/laws.FnExactMirror", spec := "fnExactMirror", apart := false, narrowed := true }
def FnExactMirrorUptoSaid : Prop := fnExactMirrorUptoRow.holds Try.pinned (OpenSpec.upto fnExactMirrorSpec)

/-- 'laws.FnExactFlood', WHERE WHAT IT READS IS OF BULK AT MOST 1048576: true; the input reads as it did. -/
def fnExactFloodUptoRow : OpenClaim := { program := "yticcjdcglfiggaa", sum := "9382db350077dedd9449f699d6389cf3aec89d75bf9847610a349d078f027ad5", func := "loop.example/g00059/laws.FnExactFlood", spec := "fnExactFlood", apart := false, narrowed := true }
def FnExactFloodUptoSaid : Prop := fnExactFloodUptoRow.holds Try.pinned (OpenSpec.upto fnExactFloodSpec)

/-- 'laws.FnExactStands', WHERE WHAT IT READS IS OF BULK AT MOST 1048576: true; the input reads as it did. -/
def fnExactStandsUptoRow : OpenClaim := { program := "yticcjdcglfiggaa", sum := "9382db350077dedd9449f699d6389cf3aec89d75bf9847610a349d078f027ad5", func := "loop.example/g00059/laws.FnExactStands", spec := "fnExactStands", apart := false, narrowed := true }
def FnExactStandsUptoSaid : Prop := fnExactStandsUptoRow.holds Try.pinned (OpenSpec.upto fnExactStandsSpec)

/-- 'laws.FnExactFirstBad', WHERE WHAT IT READS IS OF BULK AT MOST 1048576: true; the input reads as it did. -/
def fnExactFirstBadUptoRow : OpenClaim := { program := "yticcjdcglfiggaa", sum := "9382db350077dedd9449f699d6389cf3aec89d75bf9847610a349d078f027ad5", func := "loop.example/g00059/laws.FnExactFirstBad", spec := "fnExactFirstBad", apart := false, narrowed := true }
def FnExactFirstBadUptoSaid : Prop := fnExactFirstBadUptoRow.holds Try.pinned (OpenSpec.upto fnExactFirstBadSpec)

end Rows
end Go.Proofs.Yticcjdcglfiggaa
