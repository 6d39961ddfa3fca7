/- Texts of the proofs of this seat, put together: GgA7. -/
import Derived.Test.YtlkambpieajplaaGreatPt15
import Derived.Test.YtlkambpieajplaaGreatProg

namespace Go.Vm.GgAwake
open Go.Proofs
set_option maxRecDepth 100000
theorem ok2 : entryOk (acallR Tryz.prog quiet tab2 1000) e2 = true := by kernel_rfl
theorem low2 : entryLow e2 = true := by kernel_rfl
end Go.Vm.GgAwake
