/-
  No cell of these rows narrows 'for every input' (looked for: loops, veiled, ifaces, maps, wideKeys, modest, calm, conditions, laid).
  DERIVED. THE GIVEN ROWS OF THIS SEAT. 8 by the template 'for every input the law returns true; each argument reads behind the call as it read before'; 0 by the template 'total and deterministic' (their statements: YtdkfleodgdpckaaTotals.lean).
  GIVEN WITH THE SEED: the statements are not yours to turn. If you find one false, say at which input.
  Laid BY PROGRAM, IN A SANDBOX (cutbox-rows.mjs): the forced cells as the released guide's own fill.sh prints them over the translation beccefb2f5003ef4… (all of the seat's roots in one cut). By AI agents, Wed Nov 11 2026. No macro, syntax, notation, axiom, sorry.
-/
import Derived.Test.YtdkfleodgdpckaaChecked
import GoSem.Claim
import GoSem.ClaimJoined
import GoSem.ClaimMapViews
import Derived.JoinedTies
import Derived.KernelRfl
namespace Go.Proofs.Ytdkfleodgdpckaa
/- THE CELL 'sum', in the pinned program and in every row, IS THE sha256 OF THE DUMP (.gsa) THAT YtdkfleodgdpckaaProg.lean LOADS. Nothing in Lean hashes anything: it is a label: what it is worth is what the hold of that sum in a sandbox is worth. -/
noncomputable def Try.pinned : Pinned := { name := "ytdkfleodgdpckaa", sum := "beccefb2f5003ef47a681095964b5dfe515e0f62a3ec1b2a52322317ea3b5c77", checked := Try.checked }
namespace Rows
def none {H : Type} : Left H := { results := [], args := [] }

/-- 'laws.FnApart': WHATEVER THE INPUT: true; the input reads as it did. -/
def fnApartSpec : ChangeSpec := { name := "fnApart", fn := fun _ => fun
  | [d] => { results := [.lit (.bool true)], args := [d] }
  | _ => none }
def fnApartRow : OpenClaim := { program := "ytdkfleodgdpckaa", sum := "beccefb2f5003ef47a681095964b5dfe515e0f62a3ec1b2a52322317ea3b5c77", func := "loop.example/g00059/laws.FnApart", spec := "fnApart", unfollowed := true, recurses := true, apart := false }
def FnApartSaid : Prop := fnApartRow.holds Try.pinned (OpenSpec.ofChange fnApartSpec)

/-- ITS FALSE NEIGHBOUR: 'it returns false'. Refute it at one input. -/
def fnApartWrong : ChangeSpec := { name := "fnApart", fn := fun _ => fun
  | [d] => { results := [.lit (.bool false)], args := [d] }
  | _ => none }
def FnApartWrongFalsely : Prop := fnApartRow.holds Try.pinned (OpenSpec.ofChange fnApartWrong)

/-- 'laws.FnVoyage': WHATEVER THE INPUT: true; the input reads as it did. -/
def fnVoyageSpec : ChangeSpec := { name := "fnVoyage", fn := fun _ => fun
  | [d] => { results := [.lit (.bool true)], args := [d] }
  | _ => none }
def fnVoyageRow : OpenClaim := { program := "ytdkfleodgdpckaa", sum := "beccefb2f5003ef47a681095964b5dfe515e0f62a3ec1b2a52322317ea3b5c77", func := "loop.example/g00059/laws.FnVoyage", spec := "fnVoyage", unfollowed := true, recurses := true, apart := false }
def FnVoyageSaid : Prop := fnVoyageRow.holds Try.pinned (OpenSpec.ofChange fnVoyageSpec)

/-- ITS FALSE NEIGHBOUR: 'it returns false'. Refute it at one input. -/
def fnVoyageWrong : ChangeSpec := { name := "fnVoyage", fn := fun _ => fun
  | [d] => { results := [.lit (.bool false)], args := [d] }
  | _ => none }
def FnVoyageWrongFalsely : Prop := fnVoyageRow.holds Try.pinned (OpenSpec.ofChange fnVoyageWrong)

/-- 'laws.FnFewest': WHATEVER THE INPUT: true; the input reads as it did. -/
def fnFewestSpec : ChangeSpec := { name := "fnFewest", fn := fun _ => fun
  | [d] => { results := [.lit (.bool true)], args := [d] }
  | _ => none }
def fnFewestRow : OpenClaim := { program := "ytdkfleodgdpckaa", sum := "beccefb2f5003ef47a681095964b5dfe515e0f62a3ec1b2a52322317ea3b5c77", func := "loop.example/g00059/laws.FnFewest", spec := "fnFewest", unfollowed := true, recurses := true, apart := false }
def FnFewestSaid : Prop := fnFewestRow.holds Try.pinned (OpenSpec.ofChange fnFewestSpec)

/-- ITS FALSE NEIGHBOUR: 'it returns false'. Refute it at one input. -/
def fnFewestWrong : ChangeSpec := { name := "fnFewest", fn := fun _ => fun
  | [d] => { results := [.lit (.bool false)], args := [d] }
  | _ => none }
def FnFewestWrongFalsely : Prop := fnFewestRow.holds Try.pinned (OpenSpec.ofChange fnFewestWrong)

/-- 'laws.FnExactHatchesOk': WHATEVER THE INPUT: true; the input reads as it did. -/
def fnExactHatchesOkSpec : ChangeSpec := { name := "fnExactHatchesOk", fn := fun _ => fun
  | [d] => { results := [.lit (.bool true)], args := [d] }
  | _ => none }
def fnExactHatchesOkRow : OpenClaim := { program := "ytdkfleodgdpckaa", sum := "beccefb2f5003ef47a681095964b5dfe515e0f62a3ec1b2a52322317ea3b5c77", func := "loop.example/g00059/laws.FnExactHatchesOk", spec := "fnExactHatchesOk", apart := false }
def FnExactHatchesOkSaid : Prop := fnExactHatchesOkRow.holds Try.pinned (OpenSpec.ofChange fnExactHatchesOkSpec)

/-- ITS FALSE NEIGHBOUR: 'it returns false'. Refute it at one input. -/
def fnExactHatchesOkWrong : ChangeSpec := { name := "fnExactHatchesOk", fn := fun _ => fun
  | [d] => { results := [.lit (.bool false)], args := [d] }
  | _ => none }
def FnExactHatchesOkWrongFalsely : Prop := fnExactHatchesOkRow.holds Try.pinned (OpenSpec.ofChange fnExactHatchesOkWrong)

/-- 'laws.FnExactStowCode': WHATEVER THE INPUT: true; the input reads as it did. -/
def fnExactStowCodeSpec : ChangeSpec := { name := "fnExactStowCode", fn := fun _ => fun
  | [d1, d2] => { results := [.lit (.bool true)], args := [d1, d2] }
  | _ => none }
def fnExactStowCodeRow : OpenClaim := { program := "ytdkfleodgdpckaa", sum := "beccefb2f5003ef47a681095964b5dfe515e0f62a3ec1b2a52322317ea3b5c77", func := "loop.example/g00059/laws.FnExactStowCode", spec := "fnExactStowCode", unfollowed := true, recurses := true, apart := false }
def FnExactStowCodeSaid : Prop := fnExactStowCodeRow.holds Try.pinned (OpenSpec.ofChange fnExactStowCodeSpec)

/-- ITS FALSE NEIGHBOUR: 'it returns false'. Refute it at one input. -/
def fnExactStowCodeWrong : ChangeSpec := { name := "fnExactStowCode", fn := fun _ => fun
  | [d1, d2] => { results := [.lit (.bool false)], args := [d1, d2] }
  | _ => none }
def FnExactStowCodeWrongFalsely : Prop := fnExactStowCodeRow.holds Try.pinned (OpenSpec.ofChange fnExactStowCodeWrong)

/-- 'laws.FnExactShifts': WHATEVER THE INPUT: true; the input reads as it did. -/
def fnExactShiftsSpec : ChangeSpec := { name := "fnExactShifts", fn := fun _ => fun
  | [d1, d2] => { results := [.lit (.bool true)], args := [d1, d2] }
  | _ => none }
def fnExactShiftsRow : OpenClaim := { program := "ytdkfleodgdpckaa", sum := "beccefb2f5003ef47a681095964b5dfe515e0f62a3ec1b2a52322317ea3b5c77", func := "loop.example/g00059/laws.FnExactShifts", spec := "fnExactShifts", apart := false }
def FnExactShiftsSaid : Prop := fnExactShiftsRow.holds Try.pinned (OpenSpec.ofChange fnExactShiftsSpec)

/-- ITS FALSE NEIGHBOUR: 'it returns false'. Refute it at one input. -/
def fnExactShiftsWrong : ChangeSpec := { name := "fnExactShifts", fn := fun _ => fun
  | [d1, d2] => { results := [.lit (.bool false)], args := [d1, d2] }
  | _ => none }
def FnExactShiftsWrongFalsely : Prop := fnExactShiftsRow.holds Try.pinned (OpenSpec.ofChange fnExactShiftsWrong)

/-- 'laws.FnExactAtPort': WHATEVER THE INPUT: true; the input reads as it did. -/
def fnExactAtPortSpec : ChangeSpec := { name := "fnExactAtPort", fn := fun _ => fun
  | [d1, d2, d3, d4] => { results := [.lit (.bool true)], args := [d1, d2, d3, d4] }
  | _ => none }
def fnExactAtPortRow : OpenClaim := { program := "ytdkfleodgdpckaa", sum := "beccefb2f5003ef47a681095964b5dfe515e0f62a3ec1b2a52322317ea3b5c77", func := "loop.example/g00059/laws.FnExactAtPort", spec := "fnExactAtPort", unfollowed := true, recurses := true, apart := false }
def FnExactAtPortSaid : Prop := fnExactAtPortRow.holds Try.pinned (OpenSpec.ofChange fnExactAtPortSpec)

/-- ITS FALSE NEIGHBOUR: 'it returns false'. Refute it at one input. -/
def fnExactAtPortWrong : ChangeSpec := { name := "fnExactAtPort", fn := fun _ => fun
  | [d1, d2, d3, d4] => { results := [.lit (.bool false)], args := [d1, d2, d3, d4] }
  | _ => none }
def FnExactAtPortWrongFalsely : Prop := fnExactAtPortRow.holds Try.pinned (OpenSpec.ofChange fnExactAtPortWrong)

/-- 'laws.FnExactFewest': WHATEVER THE INPUT: true; the input reads as it did. -/
def fnExactFewestSpec : ChangeSpec := { name := "fnExactFewest", fn := fun _ => fun
  | [d1, d2] => { results := [.lit (.bool true)], args := [d1, d2] }
  | _ => none }
def fnExactFewestRow : OpenClaim := { program := "ytdkfleodgdpckaa", sum := "beccefb2f5003ef47a681095964b5dfe515e0f62a3ec1b2a52322317ea3b5c77", func := "loop.example/g00059/laws.FnExactFewest", spec := "fnExactFewest", unfollowed := true, recurses := true, apart := false }
def FnExactFewestSaid : Prop := fnExactFewestRow.holds Try.pinned (OpenSpec.ofChange fnExactFewestSpec)

/-- ITS FALSE NEIGHBOUR: 'it returns false'. Refute it at one input. -/
def fnExactFewestWrong : ChangeSpec := { name := "fnExactFewest", fn := fun _ => fun
  | [d1, d2] => { results := [.lit (.bool false)], args := [d1, d2] }
  | _ => none }
def FnExactFewestWrongFalsely : Prop := fnExactFewestRow.holds Try.pinned (OpenSpec.ofChange fnExactFewestWrong)

/- THE SECOND FORM. 'bulk': how many values and letters a reading holds, each counted each time it is reached (what is shared counts as often as it is met; a slice's spare places count too). A statement '..UptoSaid' is the law's where the arguments, and the package variables that the reading takes, are together of bulk at most 1048576: NARROWER than '..Said'. Prove '..Said' where nothing that the law and all that it calls make is longer than what came in: it says more and counts as full. Else prove '..UptoSaid'. A law counts once. -/
mutual
def uptoBulk {H : Type} : DataW H → Nat
  | .lit (.string bytes) => bytes.length + 1
  | .lit _ => 1
  | .nil => 1
  | .ptr d => uptoBulk d + 1
  | .slice elems spare => uptoBulkAll elems + uptoBulkAll spare + 1
  | .agg parts => uptoBulkAll parts + 1
  | .iface _ d => uptoBulk d + 1
  | .map entries => uptoBulkEntries entries + 1
  | .held _ => 1
def uptoBulkAll {H : Type} : List (DataW H) → Nat
  | [] => 0
  | d :: r => uptoBulk d + uptoBulkAll r
def uptoBulkEntries {H : Type} : List (Lit × DataW H) → Nat
  | [] => 0
  | x :: r => uptoBulkEntry x + uptoBulkEntries r
def uptoBulkEntry {H : Type} : Lit × DataW H → Nat
  | (.string bytes, d) => bytes.length + uptoBulk d + 1
  | (_, d) => uptoBulk d + 1
 end
def uptoSmall : (H : Type) → List (DataW H) → Bool := fun _ ds => decide (uptoBulkAll ds ≤ 1048576)
def OpenSpec.upto (s : _root_.Go.ChangeSpec) : _root_.Go.OpenSpec := { _root_.Go.OpenSpec.ofChange s with cond := some uptoSmall }

/-- 'laws.FnApart', WHERE WHAT IT READS IS OF BULK AT MOST 1048576: true; the input reads as it did. -/
def fnApartUptoRow : OpenClaim := { program := "ytdkfleodgdpckaa", sum := "beccefb2f5003ef47a681095964b5dfe515e0f62a3ec1b2a52322317ea3b5c77", func := "loop.example/g00059/laws.FnApart", spec := "fnApart", unfollowed := true, recurses := true, apart := false, narrowed := true }
def FnApartUptoSaid : Prop := fnApartUptoRow.holds Try.pinned (OpenSpec.upto fnApartSpec)

/-- 'laws.FnVoyage', WHERE WHAT IT READS IS OF BULK AT MOST 1048576: true; the input reads as it did. -/
def fnVoyageUptoRow : OpenClaim := { program := "ytdkfleodgdpckaa", sum := "beccefb2f5003ef47a681095964b5dfe515e0f62a3ec1b2a52322317ea3b5c77", func := "loop.example/g00059/laws.FnVoyage", spec := "fnVoyage", unfollowed := true, recurses := true, apart := false, narrowed := true }
def FnVoyageUptoSaid : Prop := fnVoyageUptoRow.holds Try.pinned (OpenSpec.upto fnVoyageSpec)

/-- 'laws.FnFewest', WHERE WHAT IT READS IS OF BULK AT MOST 1048576: true; the input reads as it did. -/
def fnFewestUptoRow : OpenClaim := { program := "ytdkfleodgdpckaa", sum := "beccefb2f5003ef47a681095964b5dfe515e0f62a3ec1b2a52322317ea3b5c77", func := "loop.example/g00059/laws.FnFewest", spec := "fnFewest", unfollowed := true, recurses := true, apart := false, narrowed := true }
def FnFewestUptoSaid : Prop := fnFewestUptoRow.holds Try.pinned (OpenSpec.upto fnFewestSpec)

/-- 'laws.FnExactHatchesOk', WHERE WHAT IT READS IS OF BULK AT MOST 1048576: true; the input reads as it did. -/
def fnExactHatchesOkUptoRow : OpenClaim := { program := "ytdkfleodgdpckaa", sum := "beccefb2f5003ef47a681095964b5dfe515e0f62a3ec1b2a52322317ea3b5c77", func := "loop.example/g00059/laws.FnExactHatchesOk", spec := "fnExactHatchesOk", apart := false, narrowed := true }
def FnExactHatchesOkUptoSaid : Prop := fnExactHatchesOkUptoRow.holds Try.pinned (OpenSpec.upto fnExactHatchesOkSpec)

/-- 'laws.FnExactStowCode', WHERE WHAT IT READS IS OF BULK AT MOST 1048576: true; the input reads as it did. -/
def fnExactStowCodeUptoRow : OpenClaim := { program := "ytdkfleodgdpckaa", sum := "beccefb2f5003ef47a681095964b5dfe515e0f62a3ec1b2a52322317ea3b5c77", func := "loop.example/g00059/laws.FnExactStowCode", spec := "fnExactStowCode", unfollowed := true, recurses := true, apart := false, narrowed := true }
def FnExactStowCodeUptoSaid : Prop := fnExactStowCodeUptoRow.holds Try.pinned (OpenSpec.upto fnExactStowCodeSpec)

/-- 'laws.FnExactShifts', WHERE WHAT IT READS IS OF BULK AT MOST 1048576: true; the input reads as it did. -/
def fnExactShiftsUptoRow : OpenClaim := { program := "ytdkfleodgdpckaa", sum := "beccefb2f5003ef47a681095964b5dfe515e0f62a3ec1b2a52322317ea3b5c77", func := "loop.example/g00059/laws.FnExactShifts", spec := "fnExactShifts", apart := false, narrowed := true }
def FnExactShiftsUptoSaid : Prop := fnExactShiftsUptoRow.holds Try.pinned (OpenSpec.upto fnExactShiftsSpec)

/-- 'laws.FnExactAtPort', WHERE WHAT IT READS IS OF BULK AT MOST 1048576: true; the input reads as it did. -/
def fnExactAtPortUptoRow : OpenClaim := { program := "ytdkfleodgdpckaa", sum := "beccefb2f5003ef47a681095964b5dfe515e0f62a3ec1b2a52322317ea3b5c77", func := "loop.example/g00059/laws.FnExactAtPort", spec := "fnExactAtPort", unfollowed := true, recurses := true, apart := false, narrowed := true }
def FnExactAtPortUptoSaid : Prop := fnExactAtPortUptoRow.holds Try.pinned (OpenSpec.upto fnExactAtPortSpec)

/-- 'laws.FnExactFewest', WHERE WHAT IT READS IS OF BULK AT MOST 1048576: true; the input reads as it did. -/
def fnExactFewestUptoRow : OpenClaim := { program := "ytdkfleodgdpckaa", sum := "beccefb2f5003ef47a681095964b5dfe515e0f62a3ec1b2a52322317ea3b5c77", func := "loop.example/g00059/laws.FnExactFewest", spec := "fnExactFewest", unfollowed := true, recurses := true, apart := false, narrowed := true }
def FnExactFewestUptoSaid : Prop := fnExactFewestUptoRow.holds Try.pinned (OpenSpec.upto fnExactFewestSpec)

end Rows
end Go.Proofs.Ytdkfleodgdpckaa
