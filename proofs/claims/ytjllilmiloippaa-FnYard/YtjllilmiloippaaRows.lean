/-
  No cell of these rows narrows 'for every input' (looked for: loops, veiled, ifaces, maps, wideKeys, modest, calm, conditions, laid).
  DERIVED. THE GIVEN ROWS OF THIS SEAT. 8 by the template 'for every input the law returns true; each argument reads behind the call as it read before'; 0 by the template 'total and deterministic' (their statements: YtjllilmiloippaaTotals.lean).
  GIVEN WITH THE SEED: the statements are not yours to turn. If you find one false, say at which input.
  Laid BY PROGRAM, IN A SANDBOX (cutbox-rows.mjs): the forced cells as the released guide's own fill.sh prints them over the translation 24bf858d4a0bc0ac… (all of the seat's roots in one cut). By AI agents, Wed Nov 11 2026. No macro, syntax, notation, axiom, sorry.
-/
import Derived.Test.YtjllilmiloippaaChecked
import GoSem.Claim
import GoSem.ClaimJoined
import GoSem.ClaimMapViews
import Derived.JoinedTies
import Derived.KernelRfl
namespace Go.Proofs.Ytjllilmiloippaa
/- THE CELL 'sum', in the pinned program and in every row, IS THE sha256 OF THE DUMP (.gsa) THAT YtjllilmiloippaaProg.lean LOADS. Nothing in Lean hashes anything: it is a label: what it is worth is what the hold of that sum in a sandbox is worth. -/
noncomputable def Try.pinned : Pinned := { name := "ytjllilmiloippaa", sum := "24bf858d4a0bc0acfdcc743f728d759cec6226783be1ca67123dbc2c6f5d3454", checked := Try.checked }
namespace Rows
def none {H : Type} : Left H := { results := [], args := [] }

/-- 'laws.FnYard': WHATEVER THE INPUT: true; the input reads as it did. -/
def fnYardSpec : ChangeSpec := { name := "fnYard", fn := fun _ => fun
  | [d] => { results := [.lit (.bool true)], args := [d] }
  | _ => none }
def fnYardRow : OpenClaim := { program := "ytjllilmiloippaa", sum := "24bf858d4a0bc0acfdcc743f728d759cec6226783be1ca67123dbc2c6f5d3454", func := "loop.example/g00059/laws.FnYard", spec := "fnYard", unfollowed := true, recurses := true, apart := false }
def FnYardSaid : Prop := fnYardRow.holds Try.pinned (OpenSpec.ofChange fnYardSpec)

/-- ITS FALSE NEIGHBOUR: 'it returns false'. Refute it at one input. -/
def fnYardWrong : ChangeSpec := { name := "fnYard", fn := fun _ => fun
  | [d] => { results := [.lit (.bool false)], args := [d] }
  | _ => none }
def FnYardWrongFalsely : Prop := fnYardRow.holds Try.pinned (OpenSpec.ofChange fnYardWrong)

/-- 'laws.FnLeast': WHATEVER THE INPUT: true; the input reads as it did. -/
def fnLeastSpec : ChangeSpec := { name := "fnLeast", fn := fun _ => fun
  | [d] => { results := [.lit (.bool true)], args := [d] }
  | _ => none }
def fnLeastRow : OpenClaim := { program := "ytjllilmiloippaa", sum := "24bf858d4a0bc0acfdcc743f728d759cec6226783be1ca67123dbc2c6f5d3454", func := "loop.example/g00059/laws.FnLeast", spec := "fnLeast", unfollowed := true, recurses := true, apart := false }
def FnLeastSaid : Prop := fnLeastRow.holds Try.pinned (OpenSpec.ofChange fnLeastSpec)

/-- ITS FALSE NEIGHBOUR: 'it returns false'. Refute it at one input. -/
def fnLeastWrong : ChangeSpec := { name := "fnLeast", fn := fun _ => fun
  | [d] => { results := [.lit (.bool false)], args := [d] }
  | _ => none }
def FnLeastWrongFalsely : Prop := fnLeastRow.holds Try.pinned (OpenSpec.ofChange fnLeastWrong)

/-- 'laws.FnExactYardOk': WHATEVER THE INPUT: true; the input reads as it did. -/
def fnExactYardOkSpec : ChangeSpec := { name := "fnExactYardOk", fn := fun _ => fun
  | [d] => { results := [.lit (.bool true)], args := [d] }
  | _ => none }
def fnExactYardOkRow : OpenClaim := { program := "ytjllilmiloippaa", sum := "24bf858d4a0bc0acfdcc743f728d759cec6226783be1ca67123dbc2c6f5d3454", func := "loop.example/g00059/laws.FnExactYardOk", spec := "fnExactYardOk", recurses := true, apart := false }
def FnExactYardOkSaid : Prop := fnExactYardOkRow.holds Try.pinned (OpenSpec.ofChange fnExactYardOkSpec)

/-- ITS FALSE NEIGHBOUR: 'it returns false'. Refute it at one input. -/
def fnExactYardOkWrong : ChangeSpec := { name := "fnExactYardOk", fn := fun _ => fun
  | [d] => { results := [.lit (.bool false)], args := [d] }
  | _ => none }
def FnExactYardOkWrongFalsely : Prop := fnExactYardOkRow.holds Try.pinned (OpenSpec.ofChange fnExactYardOkWrong)

/-- 'laws.FnExactFindBox': WHATEVER THE INPUT: true; the input reads as it did. -/
def fnExactFindBoxSpec : ChangeSpec := { name := "fnExactFindBox", fn := fun _ => fun
  | [d1, d2] => { results := [.lit (.bool true)], args := [d1, d2] }
  | _ => none }
def fnExactFindBoxRow : OpenClaim := { program := "ytjllilmiloippaa", sum := "24bf858d4a0bc0acfdcc743f728d759cec6226783be1ca67123dbc2c6f5d3454", func := "loop.example/g00059/laws.FnExactFindBox", spec := "fnExactFindBox", recurses := true, apart := false }
def FnExactFindBoxSaid : Prop := fnExactFindBoxRow.holds Try.pinned (OpenSpec.ofChange fnExactFindBoxSpec)

/-- ITS FALSE NEIGHBOUR: 'it returns false'. Refute it at one input. -/
def fnExactFindBoxWrong : ChangeSpec := { name := "fnExactFindBox", fn := fun _ => fun
  | [d1, d2] => { results := [.lit (.bool false)], args := [d1, d2] }
  | _ => none }
def FnExactFindBoxWrongFalsely : Prop := fnExactFindBoxRow.holds Try.pinned (OpenSpec.ofChange fnExactFindBoxWrong)

/-- 'laws.FnExactDoYard': WHATEVER THE INPUT: true; the input reads as it did. -/
def fnExactDoYardSpec : ChangeSpec := { name := "fnExactDoYard", fn := fun _ => fun
  | [d1, d2] => { results := [.lit (.bool true)], args := [d1, d2] }
  | _ => none }
def fnExactDoYardRow : OpenClaim := { program := "ytjllilmiloippaa", sum := "24bf858d4a0bc0acfdcc743f728d759cec6226783be1ca67123dbc2c6f5d3454", func := "loop.example/g00059/laws.FnExactDoYard", spec := "fnExactDoYard", unfollowed := true, recurses := true, apart := false }
def FnExactDoYardSaid : Prop := fnExactDoYardRow.holds Try.pinned (OpenSpec.ofChange fnExactDoYardSpec)

/-- ITS FALSE NEIGHBOUR: 'it returns false'. Refute it at one input. -/
def fnExactDoYardWrong : ChangeSpec := { name := "fnExactDoYard", fn := fun _ => fun
  | [d1, d2] => { results := [.lit (.bool false)], args := [d1, d2] }
  | _ => none }
def FnExactDoYardWrongFalsely : Prop := fnExactDoYardRow.holds Try.pinned (OpenSpec.ofChange fnExactDoYardWrong)

/-- 'laws.FnExactRunYard': WHATEVER THE INPUT: true; the input reads as it did. -/
def fnExactRunYardSpec : ChangeSpec := { name := "fnExactRunYard", fn := fun _ => fun
  | [d1, d2] => { results := [.lit (.bool true)], args := [d1, d2] }
  | _ => none }
def fnExactRunYardRow : OpenClaim := { program := "ytjllilmiloippaa", sum := "24bf858d4a0bc0acfdcc743f728d759cec6226783be1ca67123dbc2c6f5d3454", func := "loop.example/g00059/laws.FnExactRunYard", spec := "fnExactRunYard", unfollowed := true, recurses := true, apart := false }
def FnExactRunYardSaid : Prop := fnExactRunYardRow.holds Try.pinned (OpenSpec.ofChange fnExactRunYardSpec)

/-- ITS FALSE NEIGHBOUR: 'it returns false'. Refute it at one input. -/
def fnExactRunYardWrong : ChangeSpec := { name := "fnExactRunYard", fn := fun _ => fun
  | [d1, d2] => { results := [.lit (.bool false)], args := [d1, d2] }
  | _ => none }
def FnExactRunYardWrongFalsely : Prop := fnExactRunYardRow.holds Try.pinned (OpenSpec.ofChange fnExactRunYardWrong)

/-- 'laws.FnExactBlocking': WHATEVER THE INPUT: true; the input reads as it did. -/
def fnExactBlockingSpec : ChangeSpec := { name := "fnExactBlocking", fn := fun _ => fun
  | [d1, d2] => { results := [.lit (.bool true)], args := [d1, d2] }
  | _ => none }
def fnExactBlockingRow : OpenClaim := { program := "ytjllilmiloippaa", sum := "24bf858d4a0bc0acfdcc743f728d759cec6226783be1ca67123dbc2c6f5d3454", func := "loop.example/g00059/laws.FnExactBlocking", spec := "fnExactBlocking", unfollowed := true, recurses := true, apart := false }
def FnExactBlockingSaid : Prop := fnExactBlockingRow.holds Try.pinned (OpenSpec.ofChange fnExactBlockingSpec)

/-- ITS FALSE NEIGHBOUR: 'it returns false'. Refute it at one input. -/
def fnExactBlockingWrong : ChangeSpec := { name := "fnExactBlocking", fn := fun _ => fun
  | [d1, d2] => { results := [.lit (.bool false)], args := [d1, d2] }
  | _ => none }
def FnExactBlockingWrongFalsely : Prop := fnExactBlockingRow.holds Try.pinned (OpenSpec.ofChange fnExactBlockingWrong)

/-- 'laws.FnExactLeastShuffles': WHATEVER THE INPUT: true; the input reads as it did. -/
def fnExactLeastShufflesSpec : ChangeSpec := { name := "fnExactLeastShuffles", fn := fun _ => fun
  | [d1, d2, d3] => { results := [.lit (.bool true)], args := [d1, d2, d3] }
  | _ => none }
def fnExactLeastShufflesRow : OpenClaim := { program := "ytjllilmiloippaa", sum := "24bf858d4a0bc0acfdcc743f728d759cec6226783be1ca67123dbc2c6f5d3454", func := "loop.example/g00059/laws.FnExactLeastShuffles", spec := "fnExactLeastShuffles", unfollowed := true, recurses := true, apart := false }
def FnExactLeastShufflesSaid : Prop := fnExactLeastShufflesRow.holds Try.pinned (OpenSpec.ofChange fnExactLeastShufflesSpec)

/-- ITS FALSE NEIGHBOUR: 'it returns false'. Refute it at one input. -/
def fnExactLeastShufflesWrong : ChangeSpec := { name := "fnExactLeastShuffles", fn := fun _ => fun
  | [d1, d2, d3] => { results := [.lit (.bool false)], args := [d1, d2, d3] }
  | _ => none }
def FnExactLeastShufflesWrongFalsely : Prop := fnExactLeastShufflesRow.holds Try.pinned (OpenSpec.ofChange fnExactLeastShufflesWrong)

/- THE SECOND FORM. 'bulk': how many values and letters a reading holds, each counted each time it is reached (what is shared counts as often as it is met; a slice's spare places count too). A statement '..UptoSaid' is the law's where the arguments, and the package variables that the reading takes, are together of bulk at most 1048576: NARROWER than '..Said'. Prove '..Said' where nothing that the law and all that it calls make is longer than what came in: it says more and counts as full. Else prove '..UptoSaid'. A law counts once. -/
mutual
def uptoBulk {H : Type} : DataW H → Nat
  | .lit (.string bytes) => bytes.length + 1
  | .lit _ => 1
  | .nil => 1
  | .ptr d => uptoBulk d + 1
  | .slice elems spare => uptoBulkAll elems + uptoBulkAll spare + 1
  | .agg parts => uptoBulkAll parts + 1
  | .iface _ d => uptoBulk d + 1
  | .map entries => uptoBulkEntries entries + 1
  | .held _ => 1
def uptoBulkAll {H : Type} : List (DataW H) → Nat
  | [] => 0
  | d :: r => uptoBulk d + uptoBulkAll r
def uptoBulkEntries {H : Type} : List (Lit × DataW H) → Nat
  | [] => 0
  | x :: r => uptoBulkEntry x + uptoBulkEntries r
def uptoBulkEntry {H : Type} : Lit × DataW H → Nat
  | (.string bytes, d) => bytes.length + uptoBulk d + 1
  | (_, d) => uptoBulk d + 1
 end
def uptoSmall : (H : Type) → List (DataW H) → Bool := fun _ ds => decide (uptoBulkAll ds ≤ 1048576)
def OpenSpec.upto (s : _root_.Go.ChangeSpec) : _root_.Go.OpenSpec := { _root_.Go.OpenSpec.ofChange s with cond := some uptoSmall }

/-- 'laws.FnYard', WHERE WHAT IT READS IS OF BULK AT MOST 1048576: true; the input reads as it did. -/
def fnYardUptoRow : OpenClaim := { program := "ytjllilmiloippaa", sum := "24bf858d4a0bc0acfdcc743f728d759cec6226783be1ca67123dbc2c6f5d3454", func := "loop.example/g00059/laws.FnYard", spec := "fnYard", unfollowed := true, recurses := true, apart := false, narrowed := true }
def FnYardUptoSaid : Prop := fnYardUptoRow.holds Try.pinned (OpenSpec.upto fnYardSpec)

/-- 'laws.FnLeast', WHERE WHAT IT READS IS OF BULK AT MOST 1048576: true; the input reads as it did. -/
def fnLeastUptoRow : OpenClaim := { program := "ytjllilmiloippaa", sum := "24bf858d4a0bc0acfdcc743f728d759cec6226783be1ca67123dbc2c6f5d3454", func := "loop.example/g00059/laws.FnLeast", spec := "fnLeast", unfollowed := true, recurses := true, apart := false, narrowed := true }
def FnLeastUptoSaid : Prop := fnLeastUptoRow.holds Try.pinned (OpenSpec.upto fnLeastSpec)

/-- 'laws.FnExactYardOk', WHERE WHAT IT READS IS OF BULK AT MOST 1048576: true; the input reads as it did. -/
def fnExactYardOkUptoRow : OpenClaim := { program := "ytjllilmiloippaa", sum := "24bf858d4a0bc0acfdcc743f728d759cec6226783be1ca67123dbc2c6f5d3454", func := "loop.example/g00059/laws.FnExactYardOk", spec := "fnExactYardOk", recurses := true, apart := false, narrowed := true }
def FnExactYardOkUptoSaid : Prop := fnExactYardOkUptoRow.holds Try.pinned (OpenSpec.upto fnExactYardOkSpec)

/-- 'laws.FnExactFindBox', WHERE WHAT IT READS IS OF BULK AT MOST 1048576: true; the input reads as it did. -/
def fnExactFindBoxUptoRow : OpenClaim := { program := "ytjllilmiloippaa", sum := "24bf858d4a0bc0acfdcc743f728d759cec6226783be1ca67123dbc2c6f5d3454", func := "loop.example/g00059/laws.FnExactFindBox", spec := "fnExactFindBox", recurses := true, apart := false, narrowed := true }
def FnExactFindBoxUptoSaid : Prop := fnExactFindBoxUptoRow.holds Try.pinned (OpenSpec.upto fnExactFindBoxSpec)

/-- 'laws.FnExactDoYard', WHERE WHAT IT READS IS OF BULK AT MOST 1048576: true; the input reads as it did. -/
def fnExactDoYardUptoRow : OpenClaim := { program := "ytjllilmiloippaa", sum := "24bf858d4a0bc0acfdcc743f728d759cec6226783be1ca67123dbc2c6f5d3454", func := "loop.example/g00059/laws.FnExactDoYard", spec := "fnExactDoYard", unfollowed := true, recurses := true, apart := false, narrowed := true }
def FnExactDoYardUptoSaid : Prop := fnExactDoYardUptoRow.holds Try.pinned (OpenSpec.upto fnExactDoYardSpec)

/-- 'laws.FnExactRunYard', WHERE WHAT IT READS IS OF BULK AT MOST 1048576: true; the input reads as it did. -/
def fnExactRunYardUptoRow : OpenClaim := { program := "ytjllilmiloippaa", sum := "24bf858d4a0bc0acfdcc743f728d759cec6226783be1ca67123dbc2c6f5d3454", func := "loop.example/g00059/laws.FnExactRunYard", spec := "fnExactRunYard", unfollowed := true, recurses := true, apart := false, narrowed := true }
def FnExactRunYardUptoSaid : Prop := fnExactRunYardUptoRow.holds Try.pinned (OpenSpec.upto fnExactRunYardSpec)

/-- 'laws.FnExactBlocking', WHERE WHAT IT READS IS OF BULK AT MOST 1048576: true; the input reads as it did. -/
def fnExactBlockingUptoRow : OpenClaim := { program := "ytjllilmiloippaa", sum := "24bf858d4a0bc0acfdcc743f728d759cec6226783be1ca67123dbc2c6f5d3454", func := "loop.example/g00059/laws.FnExactBlocking", spec := "fnExactBlocking", unfollowed := true, recurses := true, apart := false, narrowed := true }
def FnExactBlockingUptoSaid : Prop := fnExactBlockingUptoRow.holds Try.pinned (OpenSpec.upto fnExactBlockingSpec)

/-- 'laws.FnExactLeastShuffles', WHERE WHAT IT READS IS OF BULK AT MOST 1048576: true; the input reads as it did. -/
def fnExactLeastShufflesUptoRow : OpenClaim := { program := "ytjllilmiloippaa", sum := "24bf858d4a0bc0acfdcc743f728d759cec6226783be1ca67123dbc2c6f5d3454", func := "loop.example/g00059/laws.FnExactLeastShuffles", spec := "fnExactLeastShuffles", unfollowed := true, recurses := true, apart := false, narrowed := true }
def FnExactLeastShufflesUptoSaid : Prop := fnExactLeastShufflesUptoRow.holds Try.pinned (OpenSpec.upto fnExactLeastShufflesSpec)

end Rows
end Go.Proofs.Ytjllilmiloippaa
