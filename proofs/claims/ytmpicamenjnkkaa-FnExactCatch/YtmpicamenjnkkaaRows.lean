/-
  No cell of these rows narrows 'for every input' (looked for: loops, veiled, ifaces, maps, wideKeys, modest, calm, conditions, laid).
  DERIVED. THE GIVEN ROWS OF THIS SEAT. 4 by the template 'for every input the law returns true; each argument reads behind the call as it read before'; 0 by the template 'total and deterministic' (their statements: YtmpicamenjnkkaaTotals.lean).
  GIVEN WITH THE SEED: the statements are not yours to turn. If you find one false, say at which input.
  Laid BY PROGRAM, IN A SANDBOX (cutbox-rows.mjs): the forced cells as the released guide's own fill.sh prints them over the translation 85bc0bbe8f722879… (all of the seat's roots in one cut). By AI agents, Wed Nov 11 2026. No macro, syntax, notation, axiom, sorry.
-/
import Derived.Test.YtmpicamenjnkkaaChecked
import GoSem.Claim
import GoSem.ClaimJoined
import GoSem.ClaimMapViews
import Derived.JoinedTies
import Derived.KernelRfl
namespace Go.Proofs.Ytmpicamenjnkkaa
/- THE CELL 'sum', in the pinned program and in every row, IS THE sha256 OF THE DUMP (.gsa) THAT YtmpicamenjnkkaaProg.lean LOADS. Nothing in Lean hashes anything: it is a label: what it is worth is what the hold of that sum in a sandbox is worth. -/
noncomputable def Try.pinned : Pinned := { name := "ytmpicamenjnkkaa", sum := "85bc0bbe8f7228796fb6540ca91d6d4af42d4afd10e5c3422aa47a95b8998ab6", checked := Try.checked }
namespace Rows
def none {H : Type} : Left H := { results := [], args := [] }

/-- 'laws.FnCaught': WHATEVER THE INPUT: true; the input reads as it did. -/
def fnCaughtSpec : ChangeSpec := { name := "fnCaught", fn := fun _ => fun
  | [d] => { results := [.lit (.bool true)], args := [d] }
  | _ => none }
def fnCaughtRow : OpenClaim := { program := "ytmpicamenjnkkaa", sum := "85bc0bbe8f7228796fb6540ca91d6d4af42d4afd10e5c3422aa47a95b8998ab6", func := "loop.example/g00059/laws.FnCaught", spec := "fnCaught", unfollowed := true, recurses := true, apart := false }
def FnCaughtSaid : Prop := fnCaughtRow.holds Try.pinned (OpenSpec.ofChange fnCaughtSpec)

/-- ITS FALSE NEIGHBOUR: 'it returns false'. Refute it at one input. -/
def fnCaughtWrong : ChangeSpec := { name := "fnCaught", fn := fun _ => fun
  | [d] => { results := [.lit (.bool false)], args := [d] }
  | _ => none }
def FnCaughtWrongFalsely : Prop := fnCaughtRow.holds Try.pinned (OpenSpec.ofChange fnCaughtWrong)

/-- 'laws.FnShoals': WHATEVER THE INPUT: true; the input reads as it did. -/
def fnShoalsSpec : ChangeSpec := { name := "fnShoals", fn := fun _ => fun
  | [d] => { results := [.lit (.bool true)], args := [d] }
  | _ => none }
def fnShoalsRow : OpenClaim := { program := "ytmpicamenjnkkaa", sum := "85bc0bbe8f7228796fb6540ca91d6d4af42d4afd10e5c3422aa47a95b8998ab6", func := "loop.example/g00059/laws.FnShoals", spec := "fnShoals", unfollowed := true, recurses := true, apart := false }
def FnShoalsSaid : Prop := fnShoalsRow.holds Try.pinned (OpenSpec.ofChange fnShoalsSpec)

/-- ITS FALSE NEIGHBOUR: 'it returns false'. Refute it at one input. -/
def fnShoalsWrong : ChangeSpec := { name := "fnShoals", fn := fun _ => fun
  | [d] => { results := [.lit (.bool false)], args := [d] }
  | _ => none }
def FnShoalsWrongFalsely : Prop := fnShoalsRow.holds Try.pinned (OpenSpec.ofChange fnShoalsWrong)

/-- 'laws.FnExactApply6': WHATEVER THE INPUT: true; the input reads as it did. -/
def fnExactApply6Spec : ChangeSpec := { name := "fnExactApply6", fn := fun _ => fun
  | [d1, d2] => { results := [.lit (.bool true)], args := [d1, d2] }
  | _ => none }
def fnExactApply6Row : OpenClaim := { program := "ytmpicamenjnkkaa", sum := "85bc0bbe8f7228796fb6540ca91d6d4af42d4afd10e5c3422aa47a95b8998ab6", func := "loop.example/g00059/laws.FnExactApply6", spec := "fnExactApply6", unfollowed := true, recurses := true, apart := false }
def FnExactApply6Said : Prop := fnExactApply6Row.holds Try.pinned (OpenSpec.ofChange fnExactApply6Spec)

/-- ITS FALSE NEIGHBOUR: 'it returns false'. Refute it at one input. -/
def fnExactApply6Wrong : ChangeSpec := { name := "fnExactApply6", fn := fun _ => fun
  | [d1, d2] => { results := [.lit (.bool false)], args := [d1, d2] }
  | _ => none }
def FnExactApply6WrongFalsely : Prop := fnExactApply6Row.holds Try.pinned (OpenSpec.ofChange fnExactApply6Wrong)

/-- 'laws.FnExactCatch': WHATEVER THE INPUT: true; the input reads as it did. -/
def fnExactCatchSpec : ChangeSpec := { name := "fnExactCatch", fn := fun _ => fun
  | [d1, d2] => { results := [.lit (.bool true)], args := [d1, d2] }
  | _ => none }
def fnExactCatchRow : OpenClaim := { program := "ytmpicamenjnkkaa", sum := "85bc0bbe8f7228796fb6540ca91d6d4af42d4afd10e5c3422aa47a95b8998ab6", func := "loop.example/g00059/laws.FnExactCatch", spec := "fnExactCatch", unfollowed := true, recurses := true, apart := false }
def FnExactCatchSaid : Prop := fnExactCatchRow.holds Try.pinned (OpenSpec.ofChange fnExactCatchSpec)

/-- ITS FALSE NEIGHBOUR: 'it returns false'. Refute it at one input. -/
def fnExactCatchWrong : ChangeSpec := { name := "fnExactCatch", fn := fun _ => fun
  | [d1, d2] => { results := [.lit (.bool false)], args := [d1, d2] }
  | _ => none }
def FnExactCatchWrongFalsely : Prop := fnExactCatchRow.holds Try.pinned (OpenSpec.ofChange fnExactCatchWrong)

/- THE SECOND FORM. 'bulk': how many values and letters a reading holds, each counted each time it is reached (what is shared counts as often as it is met; a slice's spare places count too). A statement '..UptoSaid' is the law's where the arguments, and the package variables that the reading takes, are together of bulk at most 1048576: NARROWER than '..Said'. Prove '..Said' where nothing that the law and all that it calls make is longer than what came in: it says more and counts as full. Else prove '..UptoSaid'. A law counts once. -/
mutual
def uptoBulk {H : Type} : DataW H → Nat
  | .lit (.string bytes) => bytes.length + 1
  | .lit _ => 1
  | .nil => 1
  | .ptr d => uptoBulk d + 1
  | .slice elems spare => uptoBulkAll elems + uptoBulkAll spare + 1
  | .agg parts => uptoBulkAll parts + 1
  | .iface _ d => uptoBulk d + 1
  | .map entries => uptoBulkEntries entries + 1
  | .held _ => 1
def uptoBulkAll {H : Type} : List (DataW H) → Nat
  | [] => 0
  | d :: r => uptoBulk d + uptoBulkAll r
def uptoBulkEntries {H : Type} : List (Lit × DataW H) → Nat
  | [] => 0
  | x :: r => uptoBulkEntry x + uptoBulkEntries r
def uptoBulkEntry {H : Type} : Lit × DataW H → Nat
  | (.string bytes, d) => bytes.length + uptoBulk d + 1
  | (_, d) => uptoBulk d + 1
 end
def uptoSmall : (H : Type) → List (DataW H) → Bool := fun _ ds => decide (uptoBulkAll ds ≤ 1048576)
def OpenSpec.upto (s : _root_.Go.ChangeSpec) : _root_.Go.OpenSpec := { _root_.Go.OpenSpec.ofChange s with cond := some uptoSmall }

/-- 'laws.FnCaught', WHERE WHAT IT READS IS OF BULK AT MOST 1048576: true; the input reads as it did. -/
def fnCaughtUptoRow : OpenClaim := { program := "ytmpicamenjnkkaa", sum := "85bc0bbe8f7228796fb6540ca91d6d4af42d4afd10e5c3422aa47a95b8998ab6", func := "loop.example/g00059/laws.FnCaught", spec := "fnCaught", unfollowed := true, recurses := true, apart := false, narrowed := true }
def FnCaughtUptoSaid : Prop := fnCaughtUptoRow.holds Try.pinned (OpenSpec.upto fnCaughtSpec)

/-- 'laws.FnShoals', WHERE WHAT IT READS IS OF BULK AT MOST 1048576: true; the input reads as it did. -/
def fnShoalsUptoRow : OpenClaim := { program := "ytmpicamenjnkkaa", sum := "85bc0bbe8f7228796fb6540ca91d6d4af42d4afd10e5c3422aa47a95b8998ab6", func := "loop.example/g00059/laws.FnShoals", spec := "fnShoals", unfollowed := true, recurses := true, apart := false, narrowed := true }
def FnShoalsUptoSaid : Prop := fnShoalsUptoRow.holds Try.pinned (OpenSpec.upto fnShoalsSpec)

/-- 'laws.FnExactApply6', WHERE WHAT IT READS IS OF BULK AT MOST 1048576: true; the input reads as it did. -/
def fnExactApply6UptoRow : OpenClaim := { program := "ytmpicamenjnkkaa", sum := "85bc0bbe8f7228796fb6540ca91d6d4af42d4afd10e5c3422aa47a95b8998ab6", func := "loop.example/g00059/laws.FnExactApply6", spec := "fnExactApply6", unfollowed := true, recurses := true, apart := false, narrowed := true }
def FnExactApply6UptoSaid : Prop := fnExactApply6UptoRow.holds Try.pinned (OpenSpec.upto fnExactApply6Spec)

/-- 'laws.FnExactCatch', WHERE WHAT IT READS IS OF BULK AT MOST 1048576: true; the input reads as it did. -/
def fnExactCatchUptoRow : OpenClaim := { program := "ytmpicamenjnkkaa", sum := "85bc0bbe8f7228796fb6540ca91d6d4af42d4afd10e5c3422aa47a95b8998ab6", func := "loop.example/g00059/laws.FnExactCatch", spec := "fnExactCatch", unfollowed := true, recurses := true, apart := false, narrowed := true }
def FnExactCatchUptoSaid : Prop := fnExactCatchUptoRow.holds Try.pinned (OpenSpec.upto fnExactCatchSpec)

end Rows
end Go.Proofs.Ytmpicamenjnkkaa
