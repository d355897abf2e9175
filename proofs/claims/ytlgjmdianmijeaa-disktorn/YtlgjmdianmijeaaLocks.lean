/- The numbers under which this program holds sync.Mutex. -/
import Derived.Test.YtlgjmdianmijeaaProg
import Derived.Conc.RwLib
import Derived.Conc.MuData
import Derived.KernelRfl
namespace Go.Proofs.Ytlgjmdianmijeaa
open Go.Proofs
abbrev muLink : Go.Conc.Locks.MuLink := { lock := 31, unlock := 32, ilock := 48, iunlock := 49, lockSlow := 60, unlockSlow := 63, disable := 56, enable := 58, acquire := 59, relMerge := 61, cas32 := 57, add32 := 62, tMutex := 71, tIMutex := 69, tPMutex := 89, tPIMutex := 96, tPI32 := 98, tUP := 100, tNoCopy := 66, tU32 := 67 }
theorem muLib : Go.Conc.Locks.MuLib Try.prog muLink :=
  ⟨Try.func31, Try.func32, Try.func48, Try.func49, Try.func56, Try.func58, Try.func59, Try.func61, Try.func57, Try.func62, Try.underlying69, Try.runUnderlying69, Try.sizeOf69, Try.isAgg69, Try.zeroValue69, Try.underlying71, Try.runUnderlying71, Try.sizeOf71, Try.isAgg71, Try.zeroValue71, Try.underlying89, Try.runUnderlying89, Try.sizeOf89, Try.isAgg89, Try.zeroValue89, Try.underlying96, Try.runUnderlying96, Try.sizeOf96, Try.isAgg96, Try.zeroValue96, Try.underlying98, Try.runUnderlying98, Try.sizeOf98, Try.isAgg98, Try.zeroValue98, Try.underlying100, Try.runUnderlying100, Try.sizeOf100, Try.isAgg100, Try.zeroValue100, Try.underlying66, Try.runUnderlying66, Try.sizeOf66, Try.isAgg66, Try.zeroValue66, Try.underlying21, Try.runUnderlying21, Try.sizeOf21, Try.isAgg21, Try.zeroValue21, (by kernel_rfl)⟩
end Go.Proofs.Ytlgjmdianmijeaa
