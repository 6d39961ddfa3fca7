/- Texts of the proofs of this seat, put together: GgA6. -/
import Derived.Test.YtlkambpieajplaaGreatPt14
import Derived.Test.YtlkambpieajplaaGreatProg

namespace Go.Vm.GgAwake
open Go.Proofs
set_option maxRecDepth 100000
theorem ok0 : entryOk (acallR Tryz.prog quiet tab0 1000) e0 = true := by kernel_rfl
theorem low0 : entryLow e0 = true := by kernel_rfl
theorem ok1 : entryOk (acallR Tryz.prog quiet tab1 1000) e1 = true := by kernel_rfl
theorem low1 : entryLow e1 = true := by kernel_rfl
end Go.Vm.GgAwake
