/- The numbers under which the program holds sync.Mutex's functions and types, and that it holds them. -/
import Derived.Test.YtojlkdmlelgcbaaWalkD
import Derived.Conc.MuLone
import Derived.KernelRfl
namespace Go.Proofs.Ytojlkdmlelgcbaa

abbrev Try.muLink : Go.Conc.Locks.MuLink := { lock := 93, unlock := 94, ilock := 98, iunlock := 99, lockSlow := 105, unlockSlow := 108, disable := 101, enable := 103, acquire := 104, relMerge := 106, cas32 := 102, add32 := 107, tMutex := 121, tIMutex := 119, tPMutex := 146, tPIMutex := 147, tPI32 := 149, tUP := 151, tNoCopy := 116, tU32 := 117 }
set_option maxRecDepth 100000 in
theorem Try.muLib : Go.Conc.Locks.MuLib Try.prog Try.muLink := 
  ⟨Try.func93, Try.func94, Try.func98, Try.func99, Try.func101, Try.func103, Try.func104, Try.func106, Try.func102, Try.func107, Try.underlying119, Try.runUnderlying119, Try.sizeOf119, Try.isAgg119, Try.zeroValue119, Try.underlying121, Try.runUnderlying121, Try.sizeOf121, Try.isAgg121, Try.zeroValue121, Try.underlying146, Try.runUnderlying146, Try.sizeOf146, Try.isAgg146, Try.zeroValue146, Try.underlying147, Try.runUnderlying147, Try.sizeOf147, Try.isAgg147, Try.zeroValue147, Try.underlying149, Try.runUnderlying149, Try.sizeOf149, Try.isAgg149, Try.zeroValue149, Try.underlying151, Try.runUnderlying151, Try.sizeOf151, Try.isAgg151, Try.zeroValue151, Try.underlying116, Try.runUnderlying116, Try.sizeOf116, Try.isAgg116, Try.zeroValue116, Try.underlying21, Try.runUnderlying21, Try.sizeOf21, Try.isAgg21, Try.zeroValue21, (by kernel_rfl)⟩

end Go.Proofs.Ytojlkdmlelgcbaa
