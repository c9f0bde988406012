/-
  No cell of these rows narrows 'for every input' (looked for: loops, veiled, ifaces, maps, wideKeys, modest, calm, conditions, laid).
  DERIVED. THE GIVEN ROWS OF THIS SEAT. 7 by the template 'for every input the law returns true; each argument reads behind the call as it read before'; 0 by the template 'total and deterministic' (their statements: YtojlkdmlelgcbaaTotals.lean).
  GIVEN WITH THE SEED: the statements are not yours to turn. If you find one false, say at which input.
  Laid BY PROGRAM, IN A SANDBOX (cutbox-rows.mjs): the forced cells as the released guide's own fill.sh prints them over the translation df53196645909620… (all of the seat's roots in one cut). By AI agents, Wed Nov 11 2026. No macro, syntax, notation, axiom, sorry.
-/
import Derived.Test.YtojlkdmlelgcbaaChecked
import GoSem.Claim
import GoSem.ClaimJoined
import GoSem.ClaimMapViews
import Derived.JoinedTies
import Derived.KernelRfl
namespace Go.Proofs.Ytojlkdmlelgcbaa
/- THE CELL 'sum', in the pinned program and in every row, IS THE sha256 OF THE DUMP (.gsa) THAT YtojlkdmlelgcbaaProg.lean LOADS. Nothing in Lean hashes anything: it is a label: what it is worth is what the hold of that sum in a sandbox is worth. -/
noncomputable def Try.pinned : Pinned := { name := "ytojlkdmlelgcbaa", sum := "df5319664590962033ccc31c7a79422c04686021869fa3a209d05bafdcd51700", checked := Try.checked }
namespace Rows
def none {H : Type} : Left H := { results := [], args := [] }

/-- 'laws.FnCustoms': WHATEVER THE INPUT: true; the input reads as it did. -/
def fnCustomsSpec : ChangeSpec := { name := "fnCustoms", fn := fun _ => fun
  | [d] => { results := [.lit (.bool true)], args := [d] }
  | _ => none }
def fnCustomsRow : OpenClaim := { program := "ytojlkdmlelgcbaa", sum := "df5319664590962033ccc31c7a79422c04686021869fa3a209d05bafdcd51700", func := "loop.example/g00059/laws.FnCustoms", spec := "fnCustoms", inPlace := ["slices.overlaps[loop.example/g00059/impl.Lot]", "(*internal/sync.Mutex).Lock", "internal/race.Disable", "sync/atomic.CompareAndSwapInt32", "internal/race.Enable", "internal/race.Acquire", "(*internal/sync.Mutex).lockSlow", "internal/sync.runtime_canSpin", "internal/sync.runtime_doSpin", "internal/sync.throw", "internal/sync.runtime_nanotime", "internal/sync.runtime_SemacquireMutex", "sync/atomic.AddInt32", "(*internal/sync.Mutex).Unlock", "internal/race.ReleaseMerge", "(*internal/sync.Mutex).unlockSlow", "internal/sync.fatal", "internal/sync.runtime_Semrelease"], unfollowed := true, recurses := true, apart := false }
def FnCustomsSaid : Prop := fnCustomsRow.holds Try.pinned (OpenSpec.ofChange fnCustomsSpec)

/-- ITS FALSE NEIGHBOUR: 'it returns false'. Refute it at one input. -/
def fnCustomsWrong : ChangeSpec := { name := "fnCustoms", fn := fun _ => fun
  | [d] => { results := [.lit (.bool false)], args := [d] }
  | _ => none }
def FnCustomsWrongFalsely : Prop := fnCustomsRow.holds Try.pinned (OpenSpec.ofChange fnCustomsWrong)

/-- 'laws.FnOrigin': WHATEVER THE INPUT: true; the input reads as it did. -/
def fnOriginSpec : ChangeSpec := { name := "fnOrigin", fn := fun _ => fun
  | [d] => { results := [.lit (.bool true)], args := [d] }
  | _ => none }
def fnOriginRow : OpenClaim := { program := "ytojlkdmlelgcbaa", sum := "df5319664590962033ccc31c7a79422c04686021869fa3a209d05bafdcd51700", func := "loop.example/g00059/laws.FnOrigin", spec := "fnOrigin", apart := false }
def FnOriginSaid : Prop := fnOriginRow.holds Try.pinned (OpenSpec.ofChange fnOriginSpec)

/-- ITS FALSE NEIGHBOUR: 'it returns false'. Refute it at one input. -/
def fnOriginWrong : ChangeSpec := { name := "fnOrigin", fn := fun _ => fun
  | [d] => { results := [.lit (.bool false)], args := [d] }
  | _ => none }
def FnOriginWrongFalsely : Prop := fnOriginRow.holds Try.pinned (OpenSpec.ofChange fnOriginWrong)

/-- 'laws.FnExactDuty6': WHATEVER THE INPUT: true; the input reads as it did. -/
def fnExactDuty6Spec : ChangeSpec := { name := "fnExactDuty6", fn := fun _ => fun
  | [d1, d2, d3] => { results := [.lit (.bool true)], args := [d1, d2, d3] }
  | _ => none }
def fnExactDuty6Row : OpenClaim := { program := "ytojlkdmlelgcbaa", sum := "df5319664590962033ccc31c7a79422c04686021869fa3a209d05bafdcd51700", func := "loop.example/g00059/laws.FnExactDuty6", spec := "fnExactDuty6", apart := false }
def FnExactDuty6Said : Prop := fnExactDuty6Row.holds Try.pinned (OpenSpec.ofChange fnExactDuty6Spec)

/-- ITS FALSE NEIGHBOUR: 'it returns false'. Refute it at one input. -/
def fnExactDuty6Wrong : ChangeSpec := { name := "fnExactDuty6", fn := fun _ => fun
  | [d1, d2, d3] => { results := [.lit (.bool false)], args := [d1, d2, d3] }
  | _ => none }
def FnExactDuty6WrongFalsely : Prop := fnExactDuty6Row.holds Try.pinned (OpenSpec.ofChange fnExactDuty6Wrong)

/-- 'laws.FnExactHouseOk': WHATEVER THE INPUT: true; the input reads as it did. -/
def fnExactHouseOkSpec : ChangeSpec := { name := "fnExactHouseOk", fn := fun _ => fun
  | [d] => { results := [.lit (.bool true)], args := [d] }
  | _ => none }
def fnExactHouseOkRow : OpenClaim := { program := "ytojlkdmlelgcbaa", sum := "df5319664590962033ccc31c7a79422c04686021869fa3a209d05bafdcd51700", func := "loop.example/g00059/laws.FnExactHouseOk", spec := "fnExactHouseOk", apart := false }
def FnExactHouseOkSaid : Prop := fnExactHouseOkRow.holds Try.pinned (OpenSpec.ofChange fnExactHouseOkSpec)

/-- ITS FALSE NEIGHBOUR: 'it returns false'. Refute it at one input. -/
def fnExactHouseOkWrong : ChangeSpec := { name := "fnExactHouseOk", fn := fun _ => fun
  | [d] => { results := [.lit (.bool false)], args := [d] }
  | _ => none }
def FnExactHouseOkWrongFalsely : Prop := fnExactHouseOkRow.holds Try.pinned (OpenSpec.ofChange fnExactHouseOkWrong)

/-- 'laws.FnExactDoDeed': WHATEVER THE INPUT: true; the input reads as it did. -/
def fnExactDoDeedSpec : ChangeSpec := { name := "fnExactDoDeed", fn := fun _ => fun
  | [d1, d2] => { results := [.lit (.bool true)], args := [d1, d2] }
  | _ => none }
def fnExactDoDeedRow : OpenClaim := { program := "ytojlkdmlelgcbaa", sum := "df5319664590962033ccc31c7a79422c04686021869fa3a209d05bafdcd51700", func := "loop.example/g00059/laws.FnExactDoDeed", spec := "fnExactDoDeed", inPlace := ["slices.overlaps[loop.example/g00059/impl.Lot]", "(*internal/sync.Mutex).Lock", "internal/race.Disable", "sync/atomic.CompareAndSwapInt32", "internal/race.Enable", "internal/race.Acquire", "(*internal/sync.Mutex).lockSlow", "internal/sync.runtime_canSpin", "internal/sync.runtime_doSpin", "internal/sync.throw", "internal/sync.runtime_nanotime", "internal/sync.runtime_SemacquireMutex", "sync/atomic.AddInt32", "(*internal/sync.Mutex).Unlock", "internal/race.ReleaseMerge", "(*internal/sync.Mutex).unlockSlow", "internal/sync.fatal", "internal/sync.runtime_Semrelease"], unfollowed := true, recurses := true, apart := false }
def FnExactDoDeedSaid : Prop := fnExactDoDeedRow.holds Try.pinned (OpenSpec.ofChange fnExactDoDeedSpec)

/-- ITS FALSE NEIGHBOUR: 'it returns false'. Refute it at one input. -/
def fnExactDoDeedWrong : ChangeSpec := { name := "fnExactDoDeed", fn := fun _ => fun
  | [d1, d2] => { results := [.lit (.bool false)], args := [d1, d2] }
  | _ => none }
def FnExactDoDeedWrongFalsely : Prop := fnExactDoDeedRow.holds Try.pinned (OpenSpec.ofChange fnExactDoDeedWrong)

/-- 'laws.FnExactRunDeeds': WHATEVER THE INPUT: true; the input reads as it did. -/
def fnExactRunDeedsSpec : ChangeSpec := { name := "fnExactRunDeeds", fn := fun _ => fun
  | [d1, d2] => { results := [.lit (.bool true)], args := [d1, d2] }
  | _ => none }
def fnExactRunDeedsRow : OpenClaim := { program := "ytojlkdmlelgcbaa", sum := "df5319664590962033ccc31c7a79422c04686021869fa3a209d05bafdcd51700", func := "loop.example/g00059/laws.FnExactRunDeeds", spec := "fnExactRunDeeds", inPlace := ["(*internal/sync.Mutex).Lock", "internal/race.Disable", "sync/atomic.CompareAndSwapInt32", "internal/race.Enable", "internal/race.Acquire", "(*internal/sync.Mutex).lockSlow", "internal/sync.runtime_canSpin", "internal/sync.runtime_doSpin", "internal/sync.throw", "internal/sync.runtime_nanotime", "internal/sync.runtime_SemacquireMutex", "sync/atomic.AddInt32", "(*internal/sync.Mutex).Unlock", "internal/race.ReleaseMerge", "(*internal/sync.Mutex).unlockSlow", "internal/sync.fatal", "internal/sync.runtime_Semrelease", "slices.overlaps[loop.example/g00059/impl.Lot]"], unfollowed := true, recurses := true, apart := false }
def FnExactRunDeedsSaid : Prop := fnExactRunDeedsRow.holds Try.pinned (OpenSpec.ofChange fnExactRunDeedsSpec)

/-- ITS FALSE NEIGHBOUR: 'it returns false'. Refute it at one input. -/
def fnExactRunDeedsWrong : ChangeSpec := { name := "fnExactRunDeeds", fn := fun _ => fun
  | [d1, d2] => { results := [.lit (.bool false)], args := [d1, d2] }
  | _ => none }
def FnExactRunDeedsWrongFalsely : Prop := fnExactRunDeedsRow.holds Try.pinned (OpenSpec.ofChange fnExactRunDeedsWrong)

/-- 'laws.FnExactOrigin': WHATEVER THE INPUT: true; the input reads as it did. -/
def fnExactOriginSpec : ChangeSpec := { name := "fnExactOrigin", fn := fun _ => fun
  | [d1, d2, d3] => { results := [.lit (.bool true)], args := [d1, d2, d3] }
  | _ => none }
def fnExactOriginRow : OpenClaim := { program := "ytojlkdmlelgcbaa", sum := "df5319664590962033ccc31c7a79422c04686021869fa3a209d05bafdcd51700", func := "loop.example/g00059/laws.FnExactOrigin", spec := "fnExactOrigin", apart := false }
def FnExactOriginSaid : Prop := fnExactOriginRow.holds Try.pinned (OpenSpec.ofChange fnExactOriginSpec)

/-- ITS FALSE NEIGHBOUR: 'it returns false'. Refute it at one input. -/
def fnExactOriginWrong : ChangeSpec := { name := "fnExactOrigin", fn := fun _ => fun
  | [d1, d2, d3] => { results := [.lit (.bool false)], args := [d1, d2, d3] }
  | _ => none }
def FnExactOriginWrongFalsely : Prop := fnExactOriginRow.holds Try.pinned (OpenSpec.ofChange fnExactOriginWrong)

/- THE SECOND FORM. 'bulk': how many values and letters a reading holds, each counted each time it is reached (what is shared counts as often as it is met; a slice's spare places count too). A statement '..UptoSaid' is the law's where the arguments, and the package variables that the reading takes, are together of bulk at most 1048576: NARROWER than '..Said'. Prove '..Said' where nothing that the law and all that it calls make is longer than what came in: it says more and counts as full. Else prove '..UptoSaid'. A law counts once. -/
mutual
def uptoBulk {H : Type} : DataW H → Nat
  | .lit (.string bytes) => bytes.length + 1
  | .lit _ => 1
  | .nil => 1
  | .ptr d => uptoBulk d + 1
  | .slice elems spare => uptoBulkAll elems + uptoBulkAll spare + 1
  | .agg parts => uptoBulkAll parts + 1
  | .iface _ d => uptoBulk d + 1
  | .map entries => uptoBulkEntries entries + 1
  | .held _ => 1
def uptoBulkAll {H : Type} : List (DataW H) → Nat
  | [] => 0
  | d :: r => uptoBulk d + uptoBulkAll r
def uptoBulkEntries {H : Type} : List (Lit × DataW H) → Nat
  | [] => 0
  | x :: r => uptoBulkEntry x + uptoBulkEntries r
def uptoBulkEntry {H : Type} : Lit × DataW H → Nat
  | (.string bytes, d) => bytes.length + uptoBulk d + 1
  | (_, d) => uptoBulk d + 1
 end
def uptoSmall : (H : Type) → List (DataW H) → Bool := fun _ ds => decide (uptoBulkAll ds ≤ 1048576)
def OpenSpec.upto (s : _root_.Go.ChangeSpec) : _root_.Go.OpenSpec := { _root_.Go.OpenSpec.ofChange s with cond := some uptoSmall }

/-- 'laws.FnCustoms', WHERE WHAT IT READS IS OF BULK AT MOST 1048576: true; the input reads as it did. -/
def fnCustomsUptoRow : OpenClaim := { program := "ytojlkdmlelgcbaa", sum := "df5319664590962033ccc31c7a79422c04686021869fa3a209d05bafdcd51700", func := "loop.example/g00059/laws.FnCustoms", spec := "fnCustoms", inPlace := ["slices.overlaps[loop.example/g00059/impl.Lot]", "(*internal/sync.Mutex).Lock", "internal/race.Disable", "sync/atomic.CompareAndSwapInt32", "internal/race.Enable", "internal/race.Acquire", "(*internal/sync.Mutex).lockSlow", "internal/sync.runtime_canSpin", "internal/sync.runtime_doSpin", "internal/sync.throw", "internal/sync.runtime_nanotime", "internal/sync.runtime_SemacquireMutex", "sync/atomic.AddInt32", "(*internal/sync.Mutex).Unlock", "internal/race.ReleaseMerge", "(*internal/sync.Mutex).unlockSlow", "internal/sync.fatal", "internal/sync.runtime_Semrelease"], unfollowed := true, recurses := true, apart := false, narrowed := true }
def FnCustomsUptoSaid : Prop := fnCustomsUptoRow.holds Try.pinned (OpenSpec.upto fnCustomsSpec)

/-- 'laws.FnOrigin', WHERE WHAT IT READS IS OF BULK AT MOST 1048576: true; the input reads as it did. -/
def fnOriginUptoRow : OpenClaim := { program := "ytojlkdmlelgcbaa", sum := "df5319664590962033ccc31c7a79422c04686021869fa3a209d05bafdcd51700", func := "loop.example/g00059/laws.FnOrigin", spec := "fnOrigin", apart := false, narrowed := true }
def FnOriginUptoSaid : Prop := fnOriginUptoRow.holds Try.pinned (OpenSpec.upto fnOriginSpec)

/-- 'laws.FnExactDuty6', WHERE WHAT IT READS IS OF BULK AT MOST 1048576: true; the input reads as it did. -/
def fnExactDuty6UptoRow : OpenClaim := { program := "ytojlkdmlelgcbaa", sum := "df5319664590962033ccc31c7a79422c04686021869fa3a209d05bafdcd51700", func := "loop.example/g00059/laws.FnExactDuty6", spec := "fnExactDuty6", apart := false, narrowed := true }
def FnExactDuty6UptoSaid : Prop := fnExactDuty6UptoRow.holds Try.pinned (OpenSpec.upto fnExactDuty6Spec)

/-- 'laws.FnExactHouseOk', WHERE WHAT IT READS IS OF BULK AT MOST 1048576: true; the input reads as it did. -/
def fnExactHouseOkUptoRow : OpenClaim := { program := "ytojlkdmlelgcbaa", sum := "df5319664590962033ccc31c7a79422c04686021869fa3a209d05bafdcd51700", func := "loop.example/g00059/laws.FnExactHouseOk", spec := "fnExactHouseOk", apart := false, narrowed := true }
def FnExactHouseOkUptoSaid : Prop := fnExactHouseOkUptoRow.holds Try.pinned (OpenSpec.upto fnExactHouseOkSpec)

/-- 'laws.FnExactDoDeed', WHERE WHAT IT READS IS OF BULK AT MOST 1048576: true; the input reads as it did. -/
def fnExactDoDeedUptoRow : OpenClaim := { program := "ytojlkdmlelgcbaa", sum := "df5319664590962033ccc31c7a79422c04686021869fa3a209d05bafdcd51700", func := "loop.example/g00059/laws.FnExactDoDeed", spec := "fnExactDoDeed", inPlace := ["slices.overlaps[loop.example/g00059/impl.Lot]", "(*internal/sync.Mutex).Lock", "internal/race.Disable", "sync/atomic.CompareAndSwapInt32", "internal/race.Enable", "internal/race.Acquire", "(*internal/sync.Mutex).lockSlow", "internal/sync.runtime_canSpin", "internal/sync.runtime_doSpin", "internal/sync.throw", "internal/sync.runtime_nanotime", "internal/sync.runtime_SemacquireMutex", "sync/atomic.AddInt32", "(*internal/sync.Mutex).Unlock", "internal/race.ReleaseMerge", "(*internal/sync.Mutex).unlockSlow", "internal/sync.fatal", "internal/sync.runtime_Semrelease"], unfollowed := true, recurses := true, apart := false, narrowed := true }
def FnExactDoDeedUptoSaid : Prop := fnExactDoDeedUptoRow.holds Try.pinned (OpenSpec.upto fnExactDoDeedSpec)

/-- 'laws.FnExactRunDeeds', WHERE WHAT IT READS IS OF BULK AT MOST 1048576: true; the input reads as it did. -/
def fnExactRunDeedsUptoRow : OpenClaim := { program := "ytojlkdmlelgcbaa", sum := "df5319664590962033ccc31c7a79422c04686021869fa3a209d05bafdcd51700", func := "loop.example/g00059/laws.FnExactRunDeeds", spec := "fnExactRunDeeds", inPlace := ["(*internal/sync.Mutex).Lock", "internal/race.Disable", "sync/atomic.CompareAndSwapInt32", "internal/race.Enable", "internal/race.Acquire", "(*internal/sync.Mutex).lockSlow", "internal/sync.runtime_canSpin", "internal/sync.runtime_doSpin", "internal/sync.throw", "internal/sync.runtime_nanotime", "internal/sync.runtime_SemacquireMutex", "sync/atomic.AddInt32", "(*internal/sync.Mutex).Unlock", "internal/race.ReleaseMerge", "(*internal/sync.Mutex).unlockSlow", "internal/sync.fatal", "internal/sync.runtime_Semrelease", "slices.overlaps[loop.example/g00059/impl.Lot]"], unfollowed := true, recurses := true, apart := false, narrowed := true }
def FnExactRunDeedsUptoSaid : Prop := fnExactRunDeedsUptoRow.holds Try.pinned (OpenSpec.upto fnExactRunDeedsSpec)

/-- 'laws.FnExactOrigin', WHERE WHAT IT READS IS OF BULK AT MOST 1048576: true; the input reads as it did. -/
def fnExactOriginUptoRow : OpenClaim := { program := "ytojlkdmlelgcbaa", sum := "df5319664590962033ccc31c7a79422c04686021869fa3a209d05bafdcd51700", func := "loop.example/g00059/laws.FnExactOrigin", spec := "fnExactOrigin", apart := false, narrowed := true }
def FnExactOriginUptoSaid : Prop := fnExactOriginUptoRow.holds Try.pinned (OpenSpec.upto fnExactOriginSpec)

end Rows
end Go.Proofs.Ytojlkdmlelgcbaa
