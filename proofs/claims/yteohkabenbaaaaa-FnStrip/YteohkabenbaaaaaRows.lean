/-
  No cell of these rows narrows 'for every input' (looked for: loops, veiled, ifaces, maps, wideKeys, modest, calm, conditions, laid).
  DERIVED. THE GIVEN ROWS OF THIS SEAT. 16 by the template 'for every input the law returns true; each argument reads behind the call as it read before'; 0 by the template 'total and deterministic' (their statements: YteohkabenbaaaaaTotals.lean).
  GIVEN WITH THE SEED: the statements are not yours to turn. If you find one false, say at which input.
  Laid BY PROGRAM, IN A SANDBOX (cutbox-rows.mjs): the forced cells as the released guide's own fill.sh prints them over the translation 54b7f9436c773435… (all of the seat's roots in one cut). By AI agents, Wed Nov 11 2026. No macro, syntax, notation, axiom, sorry.
-/
import Derived.Test.YteohkabenbaaaaaChecked
import GoSem.Claim
import GoSem.ClaimJoined
import GoSem.ClaimMapViews
import Derived.JoinedTies
import Derived.KernelRfl
namespace Go.Proofs.Yteohkabenbaaaaa
/- THE CELL 'sum', in the pinned program and in every row, IS THE sha256 OF THE DUMP (.gsa) THAT YteohkabenbaaaaaProg.lean LOADS. Nothing in Lean hashes anything: it is a label: what it is worth is what the hold of that sum in a sandbox is worth. -/
noncomputable def Try.pinned : Pinned := { name := "yteohkabenbaaaaa", sum := "54b7f9436c7734355c14ee78a25bba8770fcefc31eca1223b1c607baff988800", checked := Try.checked }
namespace Rows
def none {H : Type} : Left H := { results := [], args := [] }

/-- 'laws.FnSizes4': WHATEVER THE INPUT: true; the input reads as it did. -/
def fnSizes4Spec : ChangeSpec := { name := "fnSizes4", fn := fun _ => fun
  | [d] => { results := [.lit (.bool true)], args := [d] }
  | _ => none }
def fnSizes4Row : OpenClaim := { program := "yteohkabenbaaaaa", sum := "54b7f9436c7734355c14ee78a25bba8770fcefc31eca1223b1c607baff988800", func := "loop.example/g00059/laws.FnSizes4", spec := "fnSizes4", apart := false }
def FnSizes4Said : Prop := fnSizes4Row.holds Try.pinned (OpenSpec.ofChange fnSizes4Spec)

/-- ITS FALSE NEIGHBOUR: 'it returns false'. Refute it at one input. -/
def fnSizes4Wrong : ChangeSpec := { name := "fnSizes4", fn := fun _ => fun
  | [d] => { results := [.lit (.bool false)], args := [d] }
  | _ => none }
def FnSizes4WrongFalsely : Prop := fnSizes4Row.holds Try.pinned (OpenSpec.ofChange fnSizes4Wrong)

/-- 'laws.FnOver': WHATEVER THE INPUT: true; the input reads as it did. -/
def fnOverSpec : ChangeSpec := { name := "fnOver", fn := fun _ => fun
  | [d] => { results := [.lit (.bool true)], args := [d] }
  | _ => none }
def fnOverRow : OpenClaim := { program := "yteohkabenbaaaaa", sum := "54b7f9436c7734355c14ee78a25bba8770fcefc31eca1223b1c607baff988800", func := "loop.example/g00059/laws.FnOver", spec := "fnOver", inPlace := ["math.Float64bits", "math.Float64frombits"], apart := false }
def FnOverSaid : Prop := fnOverRow.holds Try.pinned (OpenSpec.ofChange fnOverSpec)

/-- ITS FALSE NEIGHBOUR: 'it returns false'. Refute it at one input. -/
def fnOverWrong : ChangeSpec := { name := "fnOver", fn := fun _ => fun
  | [d] => { results := [.lit (.bool false)], args := [d] }
  | _ => none }
def FnOverWrongFalsely : Prop := fnOverRow.holds Try.pinned (OpenSpec.ofChange fnOverWrong)

/-- 'laws.FnStrip': WHATEVER THE INPUT: true; the input reads as it did. -/
def fnStripSpec : ChangeSpec := { name := "fnStrip", fn := fun _ => fun
  | [d] => { results := [.lit (.bool true)], args := [d] }
  | _ => none }
def fnStripRow : OpenClaim := { program := "yteohkabenbaaaaa", sum := "54b7f9436c7734355c14ee78a25bba8770fcefc31eca1223b1c607baff988800", func := "loop.example/g00059/laws.FnStrip", spec := "fnStrip", apart := false }
def FnStripSaid : Prop := fnStripRow.holds Try.pinned (OpenSpec.ofChange fnStripSpec)

/-- ITS FALSE NEIGHBOUR: 'it returns false'. Refute it at one input. -/
def fnStripWrong : ChangeSpec := { name := "fnStrip", fn := fun _ => fun
  | [d] => { results := [.lit (.bool false)], args := [d] }
  | _ => none }
def FnStripWrongFalsely : Prop := fnStripRow.holds Try.pinned (OpenSpec.ofChange fnStripWrong)

/-- 'laws.FnExactGreat': WHATEVER THE INPUT: true; the input reads as it did. -/
def fnExactGreatSpec : ChangeSpec := { name := "fnExactGreat", fn := fun _ => fun
  | [d] => { results := [.lit (.bool true)], args := [d] }
  | _ => none }
def fnExactGreatRow : OpenClaim := { program := "yteohkabenbaaaaa", sum := "54b7f9436c7734355c14ee78a25bba8770fcefc31eca1223b1c607baff988800", func := "loop.example/g00059/laws.FnExactGreat", spec := "fnExactGreat", apart := false }
def FnExactGreatSaid : Prop := fnExactGreatRow.holds Try.pinned (OpenSpec.ofChange fnExactGreatSpec)

/-- ITS FALSE NEIGHBOUR: 'it returns false'. Refute it at one input. -/
def fnExactGreatWrong : ChangeSpec := { name := "fnExactGreat", fn := fun _ => fun
  | [d] => { results := [.lit (.bool false)], args := [d] }
  | _ => none }
def FnExactGreatWrongFalsely : Prop := fnExactGreatRow.holds Try.pinned (OpenSpec.ofChange fnExactGreatWrong)

/-- 'laws.FnExactLittle': WHATEVER THE INPUT: true; the input reads as it did. -/
def fnExactLittleSpec : ChangeSpec := { name := "fnExactLittle", fn := fun _ => fun
  | [d] => { results := [.lit (.bool true)], args := [d] }
  | _ => none }
def fnExactLittleRow : OpenClaim := { program := "yteohkabenbaaaaa", sum := "54b7f9436c7734355c14ee78a25bba8770fcefc31eca1223b1c607baff988800", func := "loop.example/g00059/laws.FnExactLittle", spec := "fnExactLittle", apart := false }
def FnExactLittleSaid : Prop := fnExactLittleRow.holds Try.pinned (OpenSpec.ofChange fnExactLittleSpec)

/-- ITS FALSE NEIGHBOUR: 'it returns false'. Refute it at one input. -/
def fnExactLittleWrong : ChangeSpec := { name := "fnExactLittle", fn := fun _ => fun
  | [d] => { results := [.lit (.bool false)], args := [d] }
  | _ => none }
def FnExactLittleWrongFalsely : Prop := fnExactLittleRow.holds Try.pinned (OpenSpec.ofChange fnExactLittleWrong)

/-- 'laws.FnExactAddSmall': WHATEVER THE INPUT: true; the input reads as it did. -/
def fnExactAddSmallSpec : ChangeSpec := { name := "fnExactAddSmall", fn := fun _ => fun
  | [d1, d2] => { results := [.lit (.bool true)], args := [d1, d2] }
  | _ => none }
def fnExactAddSmallRow : OpenClaim := { program := "yteohkabenbaaaaa", sum := "54b7f9436c7734355c14ee78a25bba8770fcefc31eca1223b1c607baff988800", func := "loop.example/g00059/laws.FnExactAddSmall", spec := "fnExactAddSmall", apart := false }
def FnExactAddSmallSaid : Prop := fnExactAddSmallRow.holds Try.pinned (OpenSpec.ofChange fnExactAddSmallSpec)

/-- ITS FALSE NEIGHBOUR: 'it returns false'. Refute it at one input. -/
def fnExactAddSmallWrong : ChangeSpec := { name := "fnExactAddSmall", fn := fun _ => fun
  | [d1, d2] => { results := [.lit (.bool false)], args := [d1, d2] }
  | _ => none }
def FnExactAddSmallWrongFalsely : Prop := fnExactAddSmallRow.holds Try.pinned (OpenSpec.ofChange fnExactAddSmallWrong)

/-- 'laws.FnExactLessSmall': WHATEVER THE INPUT: true; the input reads as it did. -/
def fnExactLessSmallSpec : ChangeSpec := { name := "fnExactLessSmall", fn := fun _ => fun
  | [d1, d2] => { results := [.lit (.bool true)], args := [d1, d2] }
  | _ => none }
def fnExactLessSmallRow : OpenClaim := { program := "yteohkabenbaaaaa", sum := "54b7f9436c7734355c14ee78a25bba8770fcefc31eca1223b1c607baff988800", func := "loop.example/g00059/laws.FnExactLessSmall", spec := "fnExactLessSmall", apart := false }
def FnExactLessSmallSaid : Prop := fnExactLessSmallRow.holds Try.pinned (OpenSpec.ofChange fnExactLessSmallSpec)

/-- ITS FALSE NEIGHBOUR: 'it returns false'. Refute it at one input. -/
def fnExactLessSmallWrong : ChangeSpec := { name := "fnExactLessSmall", fn := fun _ => fun
  | [d1, d2] => { results := [.lit (.bool false)], args := [d1, d2] }
  | _ => none }
def FnExactLessSmallWrongFalsely : Prop := fnExactLessSmallRow.holds Try.pinned (OpenSpec.ofChange fnExactLessSmallWrong)

/-- 'laws.FnExactTimes': WHATEVER THE INPUT: true; the input reads as it did. -/
def fnExactTimesSpec : ChangeSpec := { name := "fnExactTimes", fn := fun _ => fun
  | [d1, d2] => { results := [.lit (.bool true)], args := [d1, d2] }
  | _ => none }
def fnExactTimesRow : OpenClaim := { program := "yteohkabenbaaaaa", sum := "54b7f9436c7734355c14ee78a25bba8770fcefc31eca1223b1c607baff988800", func := "loop.example/g00059/laws.FnExactTimes", spec := "fnExactTimes", apart := false }
def FnExactTimesSaid : Prop := fnExactTimesRow.holds Try.pinned (OpenSpec.ofChange fnExactTimesSpec)

/-- ITS FALSE NEIGHBOUR: 'it returns false'. Refute it at one input. -/
def fnExactTimesWrong : ChangeSpec := { name := "fnExactTimes", fn := fun _ => fun
  | [d1, d2] => { results := [.lit (.bool false)], args := [d1, d2] }
  | _ => none }
def FnExactTimesWrongFalsely : Prop := fnExactTimesRow.holds Try.pinned (OpenSpec.ofChange fnExactTimesWrong)

/-- 'laws.FnExactTimesSmall': WHATEVER THE INPUT: true; the input reads as it did. -/
def fnExactTimesSmallSpec : ChangeSpec := { name := "fnExactTimesSmall", fn := fun _ => fun
  | [d1, d2] => { results := [.lit (.bool true)], args := [d1, d2] }
  | _ => none }
def fnExactTimesSmallRow : OpenClaim := { program := "yteohkabenbaaaaa", sum := "54b7f9436c7734355c14ee78a25bba8770fcefc31eca1223b1c607baff988800", func := "loop.example/g00059/laws.FnExactTimesSmall", spec := "fnExactTimesSmall", apart := false }
def FnExactTimesSmallSaid : Prop := fnExactTimesSmallRow.holds Try.pinned (OpenSpec.ofChange fnExactTimesSmallSpec)

/-- ITS FALSE NEIGHBOUR: 'it returns false'. Refute it at one input. -/
def fnExactTimesSmallWrong : ChangeSpec := { name := "fnExactTimesSmall", fn := fun _ => fun
  | [d1, d2] => { results := [.lit (.bool false)], args := [d1, d2] }
  | _ => none }
def FnExactTimesSmallWrongFalsely : Prop := fnExactTimesSmallRow.holds Try.pinned (OpenSpec.ofChange fnExactTimesSmallWrong)

/-- 'laws.FnExactOver': WHATEVER THE INPUT: true; the input reads as it did. -/
def fnExactOverSpec : ChangeSpec := { name := "fnExactOver", fn := fun _ => fun
  | [d1, d2] => { results := [.lit (.bool true)], args := [d1, d2] }
  | _ => none }
def fnExactOverRow : OpenClaim := { program := "yteohkabenbaaaaa", sum := "54b7f9436c7734355c14ee78a25bba8770fcefc31eca1223b1c607baff988800", func := "loop.example/g00059/laws.FnExactOver", spec := "fnExactOver", inPlace := ["math.Float64bits", "math.Float64frombits"], apart := false }
def FnExactOverSaid : Prop := fnExactOverRow.holds Try.pinned (OpenSpec.ofChange fnExactOverSpec)

/-- ITS FALSE NEIGHBOUR: 'it returns false'. Refute it at one input. -/
def fnExactOverWrong : ChangeSpec := { name := "fnExactOver", fn := fun _ => fun
  | [d1, d2] => { results := [.lit (.bool false)], args := [d1, d2] }
  | _ => none }
def FnExactOverWrongFalsely : Prop := fnExactOverRow.holds Try.pinned (OpenSpec.ofChange fnExactOverWrong)

/-- 'laws.FnExactAlike': WHATEVER THE INPUT: true; the input reads as it did. -/
def fnExactAlikeSpec : ChangeSpec := { name := "fnExactAlike", fn := fun _ => fun
  | [d1, d2] => { results := [.lit (.bool true)], args := [d1, d2] }
  | _ => none }
def fnExactAlikeRow : OpenClaim := { program := "yteohkabenbaaaaa", sum := "54b7f9436c7734355c14ee78a25bba8770fcefc31eca1223b1c607baff988800", func := "loop.example/g00059/laws.FnExactAlike", spec := "fnExactAlike", apart := false }
def FnExactAlikeSaid : Prop := fnExactAlikeRow.holds Try.pinned (OpenSpec.ofChange fnExactAlikeSpec)

/-- ITS FALSE NEIGHBOUR: 'it returns false'. Refute it at one input. -/
def fnExactAlikeWrong : ChangeSpec := { name := "fnExactAlike", fn := fun _ => fun
  | [d1, d2] => { results := [.lit (.bool false)], args := [d1, d2] }
  | _ => none }
def FnExactAlikeWrongFalsely : Prop := fnExactAlikeRow.holds Try.pinned (OpenSpec.ofChange fnExactAlikeWrong)

/-- 'laws.FnExactBarred': WHATEVER THE INPUT: true; the input reads as it did. -/
def fnExactBarredSpec : ChangeSpec := { name := "fnExactBarred", fn := fun _ => fun
  | [d] => { results := [.lit (.bool true)], args := [d] }
  | _ => none }
def fnExactBarredRow : OpenClaim := { program := "yteohkabenbaaaaa", sum := "54b7f9436c7734355c14ee78a25bba8770fcefc31eca1223b1c607baff988800", func := "loop.example/g00059/laws.FnExactBarred", spec := "fnExactBarred", inPlace := ["math.Float64bits", "math.Float64frombits"], apart := false }
def FnExactBarredSaid : Prop := fnExactBarredRow.holds Try.pinned (OpenSpec.ofChange fnExactBarredSpec)

/-- ITS FALSE NEIGHBOUR: 'it returns false'. Refute it at one input. -/
def fnExactBarredWrong : ChangeSpec := { name := "fnExactBarred", fn := fun _ => fun
  | [d] => { results := [.lit (.bool false)], args := [d] }
  | _ => none }
def FnExactBarredWrongFalsely : Prop := fnExactBarredRow.holds Try.pinned (OpenSpec.ofChange fnExactBarredWrong)

/-- 'laws.FnExactReply': WHATEVER THE INPUT: true; the input reads as it did. -/
def fnExactReplySpec : ChangeSpec := { name := "fnExactReply", fn := fun _ => fun
  | [d1, d2] => { results := [.lit (.bool true)], args := [d1, d2] }
  | _ => none }
def fnExactReplyRow : OpenClaim := { program := "yteohkabenbaaaaa", sum := "54b7f9436c7734355c14ee78a25bba8770fcefc31eca1223b1c607baff988800", func := "loop.example/g00059/laws.FnExactReply", spec := "fnExactReply", inPlace := ["math.Float64bits", "math.Float64frombits"], apart := false }
def FnExactReplySaid : Prop := fnExactReplyRow.holds Try.pinned (OpenSpec.ofChange fnExactReplySpec)

/-- ITS FALSE NEIGHBOUR: 'it returns false'. Refute it at one input. -/
def fnExactReplyWrong : ChangeSpec := { name := "fnExactReply", fn := fun _ => fun
  | [d1, d2] => { results := [.lit (.bool false)], args := [d1, d2] }
  | _ => none }
def FnExactReplyWrongFalsely : Prop := fnExactReplyRow.holds Try.pinned (OpenSpec.ofChange fnExactReplyWrong)

/-- 'laws.FnExactStrip': WHATEVER THE INPUT: true; the input reads as it did. -/
def fnExactStripSpec : ChangeSpec := { name := "fnExactStrip", fn := fun _ => fun
  | [d1, d2] => { results := [.lit (.bool true)], args := [d1, d2] }
  | _ => none }
def fnExactStripRow : OpenClaim := { program := "yteohkabenbaaaaa", sum := "54b7f9436c7734355c14ee78a25bba8770fcefc31eca1223b1c607baff988800", func := "loop.example/g00059/laws.FnExactStrip", spec := "fnExactStrip", apart := false }
def FnExactStripSaid : Prop := fnExactStripRow.holds Try.pinned (OpenSpec.ofChange fnExactStripSpec)

/-- ITS FALSE NEIGHBOUR: 'it returns false'. Refute it at one input. -/
def fnExactStripWrong : ChangeSpec := { name := "fnExactStrip", fn := fun _ => fun
  | [d1, d2] => { results := [.lit (.bool false)], args := [d1, d2] }
  | _ => none }
def FnExactStripWrongFalsely : Prop := fnExactStripRow.holds Try.pinned (OpenSpec.ofChange fnExactStripWrong)

/-- 'laws.FnExactEnergy': WHATEVER THE INPUT: true; the input reads as it did. -/
def fnExactEnergySpec : ChangeSpec := { name := "fnExactEnergy", fn := fun _ => fun
  | [d1, d2, d3] => { results := [.lit (.bool true)], args := [d1, d2, d3] }
  | _ => none }
def fnExactEnergyRow : OpenClaim := { program := "yteohkabenbaaaaa", sum := "54b7f9436c7734355c14ee78a25bba8770fcefc31eca1223b1c607baff988800", func := "loop.example/g00059/laws.FnExactEnergy", spec := "fnExactEnergy", apart := false }
def FnExactEnergySaid : Prop := fnExactEnergyRow.holds Try.pinned (OpenSpec.ofChange fnExactEnergySpec)

/-- ITS FALSE NEIGHBOUR: 'it returns false'. Refute it at one input. -/
def fnExactEnergyWrong : ChangeSpec := { name := "fnExactEnergy", fn := fun _ => fun
  | [d1, d2, d3] => { results := [.lit (.bool false)], args := [d1, d2, d3] }
  | _ => none }
def FnExactEnergyWrongFalsely : Prop := fnExactEnergyRow.holds Try.pinned (OpenSpec.ofChange fnExactEnergyWrong)

/-- 'laws.FnExactSummed': WHATEVER THE INPUT: true; the input reads as it did. -/
def fnExactSummedSpec : ChangeSpec := { name := "fnExactSummed", fn := fun _ => fun
  | [d] => { results := [.lit (.bool true)], args := [d] }
  | _ => none }
def fnExactSummedRow : OpenClaim := { program := "yteohkabenbaaaaa", sum := "54b7f9436c7734355c14ee78a25bba8770fcefc31eca1223b1c607baff988800", func := "loop.example/g00059/laws.FnExactSummed", spec := "fnExactSummed", apart := false }
def FnExactSummedSaid : Prop := fnExactSummedRow.holds Try.pinned (OpenSpec.ofChange fnExactSummedSpec)

/-- ITS FALSE NEIGHBOUR: 'it returns false'. Refute it at one input. -/
def fnExactSummedWrong : ChangeSpec := { name := "fnExactSummed", fn := fun _ => fun
  | [d] => { results := [.lit (.bool false)], args := [d] }
  | _ => none }
def FnExactSummedWrongFalsely : Prop := fnExactSummedRow.holds Try.pinned (OpenSpec.ofChange fnExactSummedWrong)

/- THE SECOND FORM. 'bulk': how many values and letters a reading holds, each counted each time it is reached (what is shared counts as often as it is met; a slice's spare places count too). A statement '..UptoSaid' is the law's where the arguments, and the package variables that the reading takes, are together of bulk at most 1048576: NARROWER than '..Said'. Prove '..Said' where nothing that the law and all that it calls make is longer than what came in: it says more and counts as full. Else prove '..UptoSaid'. A law counts once. -/
mutual
def uptoBulk {H : Type} : DataW H → Nat
  | .lit (.string bytes) => bytes.length + 1
  | .lit _ => 1
  | .nil => 1
  | .ptr d => uptoBulk d + 1
  | .slice elems spare => uptoBulkAll elems + uptoBulkAll spare + 1
  | .agg parts => uptoBulkAll parts + 1
  | .iface _ d => uptoBulk d + 1
  | .map entries => uptoBulkEntries entries + 1
  | .held _ => 1
def uptoBulkAll {H : Type} : List (DataW H) → Nat
  | [] => 0
  | d :: r => uptoBulk d + uptoBulkAll r
def uptoBulkEntries {H : Type} : List (Lit × DataW H) → Nat
  | [] => 0
  | x :: r => uptoBulkEntry x + uptoBulkEntries r
def uptoBulkEntry {H : Type} : Lit × DataW H → Nat
  | (.string bytes, d) => bytes.length + uptoBulk d + 1
  | (_, d) => uptoBulk d + 1
 end
def uptoSmall : (H : Type) → List (DataW H) → Bool := fun _ ds => decide (uptoBulkAll ds ≤ 1048576)
def OpenSpec.upto (s : _root_.Go.ChangeSpec) : _root_.Go.OpenSpec := { _root_.Go.OpenSpec.ofChange s with cond := some uptoSmall }

/-- 'laws.FnSizes4', WHERE WHAT IT READS IS OF BULK AT MOST 1048576: true; the input reads as it did. -/
def fnSizes4UptoRow : OpenClaim := { program := "yteohkabenbaaaaa", sum := "54b7f9436c7734355c14ee78a25bba8770fcefc31eca1223b1c607baff988800", func := "loop.example/g00059/laws.FnSizes4", spec := "fnSizes4", apart := false, narrowed := true }
def FnSizes4UptoSaid : Prop := fnSizes4UptoRow.holds Try.pinned (OpenSpec.upto fnSizes4Spec)

/-- 'laws.FnOver', WHERE WHAT IT READS IS OF BULK AT MOST 1048576: true; the input reads as it did. -/
def fnOverUptoRow : OpenClaim := { program := "yteohkabenbaaaaa", sum := "54b7f9436c7734355c14ee78a25bba8770fcefc31eca1223b1c607baff988800", func := "loop.example/g00059/laws.FnOver", spec := "fnOver", inPlace := ["math.Float64bits", "math.Float64frombits"], apart := false, narrowed := true }
def FnOverUptoSaid : Prop := fnOverUptoRow.holds Try.pinned (OpenSpec.upto fnOverSpec)

/-- 'laws.FnStrip', WHERE WHAT IT READS IS OF BULK AT MOST 1048576: true; the input reads as it did. -/
def fnStripUptoRow : OpenClaim := { program := "yteohkabenbaaaaa", sum := "54b7f9436c7734355c14ee78a25bba8770fcefc31eca1223b1c607baff988800", func := "loop.example/g00059/laws.FnStrip", spec := "fnStrip", apart := false, narrowed := true }
def FnStripUptoSaid : Prop := fnStripUptoRow.holds Try.pinned (OpenSpec.upto fnStripSpec)

/-- 'laws.FnExactGreat', WHERE WHAT IT READS IS OF BULK AT MOST 1048576: true; the input reads as it did. -/
def fnExactGreatUptoRow : OpenClaim := { program := "yteohkabenbaaaaa", sum := "54b7f9436c7734355c14ee78a25bba8770fcefc31eca1223b1c607baff988800", func := "loop.example/g00059/laws.FnExactGreat", spec := "fnExactGreat", apart := false, narrowed := true }
def FnExactGreatUptoSaid : Prop := fnExactGreatUptoRow.holds Try.pinned (OpenSpec.upto fnExactGreatSpec)

/-- 'laws.FnExactLittle', WHERE WHAT IT READS IS OF BULK AT MOST 1048576: true; the input reads as it did. -/
def fnExactLittleUptoRow : OpenClaim := { program := "yteohkabenbaaaaa", sum := "54b7f9436c7734355c14ee78a25bba8770fcefc31eca1223b1c607baff988800", func := "loop.example/g00059/laws.FnExactLittle", spec := "fnExactLittle", apart := false, narrowed := true }
def FnExactLittleUptoSaid : Prop := fnExactLittleUptoRow.holds Try.pinned (OpenSpec.upto fnExactLittleSpec)

/-- 'laws.FnExactAddSmall', WHERE WHAT IT READS IS OF BULK AT MOST 1048576: true; the input reads as it did. -/
def fnExactAddSmallUptoRow : OpenClaim := { program := "yteohkabenbaaaaa", sum := "54b7f9436c7734355c14ee78a25bba8770fcefc31eca1223b1c607baff988800", func := "loop.example/g00059/laws.FnExactAddSmall", spec := "fnExactAddSmall", apart := false, narrowed := true }
def FnExactAddSmallUptoSaid : Prop := fnExactAddSmallUptoRow.holds Try.pinned (OpenSpec.upto fnExactAddSmallSpec)

/-- 'laws.FnExactLessSmall', WHERE WHAT IT READS IS OF BULK AT MOST 1048576: true; the input reads as it did. -/
def fnExactLessSmallUptoRow : OpenClaim := { program := "yteohkabenbaaaaa", sum := "54b7f9436c7734355c14ee78a25bba8770fcefc31eca1223b1c607baff988800", func := "loop.example/g00059/laws.FnExactLessSmall", spec := "fnExactLessSmall", apart := false, narrowed := true }
def FnExactLessSmallUptoSaid : Prop := fnExactLessSmallUptoRow.holds Try.pinned (OpenSpec.upto fnExactLessSmallSpec)

/-- 'laws.FnExactTimes', WHERE WHAT IT READS IS OF BULK AT MOST 1048576: true; the input reads as it did. -/
def fnExactTimesUptoRow : OpenClaim := { program := "yteohkabenbaaaaa", sum := "54b7f9436c7734355c14ee78a25bba8770fcefc31eca1223b1c607baff988800", func := "loop.example/g00059/laws.FnExactTimes", spec := "fnExactTimes", apart := false, narrowed := true }
def FnExactTimesUptoSaid : Prop := fnExactTimesUptoRow.holds Try.pinned (OpenSpec.upto fnExactTimesSpec)

/-- 'laws.FnExactTimesSmall', WHERE WHAT IT READS IS OF BULK AT MOST 1048576: true; the input reads as it did. -/
def fnExactTimesSmallUptoRow : OpenClaim := { program := "yteohkabenbaaaaa", sum := "54b7f9436c7734355c14ee78a25bba8770fcefc31eca1223b1c607baff988800", func := "loop.example/g00059/laws.FnExactTimesSmall", spec := "fnExactTimesSmall", apart := false, narrowed := true }
def FnExactTimesSmallUptoSaid : Prop := fnExactTimesSmallUptoRow.holds Try.pinned (OpenSpec.upto fnExactTimesSmallSpec)

/-- 'laws.FnExactOver', WHERE WHAT IT READS IS OF BULK AT MOST 1048576: true; the input reads as it did. -/
def fnExactOverUptoRow : OpenClaim := { program := "yteohkabenbaaaaa", sum := "54b7f9436c7734355c14ee78a25bba8770fcefc31eca1223b1c607baff988800", func := "loop.example/g00059/laws.FnExactOver", spec := "fnExactOver", inPlace := ["math.Float64bits", "math.Float64frombits"], apart := false, narrowed := true }
def FnExactOverUptoSaid : Prop := fnExactOverUptoRow.holds Try.pinned (OpenSpec.upto fnExactOverSpec)

/-- 'laws.FnExactAlike', WHERE WHAT IT READS IS OF BULK AT MOST 1048576: true; the input reads as it did. -/
def fnExactAlikeUptoRow : OpenClaim := { program := "yteohkabenbaaaaa", sum := "54b7f9436c7734355c14ee78a25bba8770fcefc31eca1223b1c607baff988800", func := "loop.example/g00059/laws.FnExactAlike", spec := "fnExactAlike", apart := false, narrowed := true }
def FnExactAlikeUptoSaid : Prop := fnExactAlikeUptoRow.holds Try.pinned (OpenSpec.upto fnExactAlikeSpec)

/-- 'laws.FnExactBarred', WHERE WHAT IT READS IS OF BULK AT MOST 1048576: true; the input reads as it did. -/
def fnExactBarredUptoRow : OpenClaim := { program := "yteohkabenbaaaaa", sum := "54b7f9436c7734355c14ee78a25bba8770fcefc31eca1223b1c607baff988800", func := "loop.example/g00059/laws.FnExactBarred", spec := "fnExactBarred", inPlace := ["math.Float64bits", "math.Float64frombits"], apart := false, narrowed := true }
def FnExactBarredUptoSaid : Prop := fnExactBarredUptoRow.holds Try.pinned (OpenSpec.upto fnExactBarredSpec)

/-- 'laws.FnExactReply', WHERE WHAT IT READS IS OF BULK AT MOST 1048576: true; the input reads as it did. -/
def fnExactReplyUptoRow : OpenClaim := { program := "yteohkabenbaaaaa", sum := "54b7f9436c7734355c14ee78a25bba8770fcefc31eca1223b1c607baff988800", func := "loop.example/g00059/laws.FnExactReply", spec := "fnExactReply", inPlace := ["math.Float64bits", "math.Float64frombits"], apart := false, narrowed := true }
def FnExactReplyUptoSaid : Prop := fnExactReplyUptoRow.holds Try.pinned (OpenSpec.upto fnExactReplySpec)

/-- 'laws.FnExactStrip', WHERE WHAT IT READS IS OF BULK AT MOST 1048576: true; the input reads as it did. -/
def fnExactStripUptoRow : OpenClaim := { program := "yteohkabenbaaaaa", sum := "54b7f9436c7734355c14ee78a25bba8770fcefc31eca1223b1c607baff988800", func := "loop.example/g00059/laws.FnExactStrip", spec := "fnExactStrip", apart := false, narrowed := true }
def FnExactStripUptoSaid : Prop := fnExactStripUptoRow.holds Try.pinned (OpenSpec.upto fnExactStripSpec)

/-- 'laws.FnExactEnergy', WHERE WHAT IT READS IS OF BULK AT MOST 1048576: true; the input reads as it did. -/
def fnExactEnergyUptoRow : OpenClaim := { program := "yteohkabenbaaaaa", sum := "54b7f9436c7734355c14ee78a25bba8770fcefc31eca1223b1c607baff988800", func := "loop.example/g00059/laws.FnExactEnergy", spec := "fnExactEnergy", apart := false, narrowed := true }
def FnExactEnergyUptoSaid : Prop := fnExactEnergyUptoRow.holds Try.pinned (OpenSpec.upto fnExactEnergySpec)

/-- 'laws.FnExactSummed', WHERE WHAT IT READS IS OF BULK AT MOST 1048576: true; the input reads as it did. -/
def fnExactSummedUptoRow : OpenClaim := { program := "yteohkabenbaaaaa", sum := "54b7f9436c7734355c14ee78a25bba8770fcefc31eca1223b1c607baff988800", func := "loop.example/g00059/laws.FnExactSummed", spec := "fnExactSummed", apart := false, narrowed := true }
def FnExactSummedUptoSaid : Prop := fnExactSummedUptoRow.holds Try.pinned (OpenSpec.upto fnExactSummedSpec)

end Rows
end Go.Proofs.Yteohkabenbaaaaa
