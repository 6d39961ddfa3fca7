/- Texts of the proofs of this seat, put together: GgA11. -/
import Derived.Test.YtlkambpieajplaaGreatPt19
import Derived.Test.YtlkambpieajplaaGreatProg

namespace Go.Vm.GgAwake
open Go.Proofs
set_option maxRecDepth 100000
theorem ok6 : entryOk (acallR Tryz.prog quiet tab6 1000) e6 = true := by kernel_rfl
theorem low6 : entryLow e6 = true := by kernel_rfl
end Go.Vm.GgAwake
