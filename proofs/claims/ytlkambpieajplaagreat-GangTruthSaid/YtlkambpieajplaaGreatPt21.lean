/- Texts of the proofs of this seat, put together: GgA12. -/
import Derived.Test.YtlkambpieajplaaGreatPt20
import Derived.Test.YtlkambpieajplaaGreatProg

namespace Go.Vm.GgAwake
open Go.Proofs
set_option maxRecDepth 100000
theorem ok13 : entryOk (acallR Tryz.prog quiet tab13 1000) e13 = true := by kernel_rfl
theorem low13 : entryLow e13 = true := by kernel_rfl
end Go.Vm.GgAwake
