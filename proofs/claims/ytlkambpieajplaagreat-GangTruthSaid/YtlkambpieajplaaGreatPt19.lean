/- Texts of the proofs of this seat, put together: GgA10. -/
import Derived.Test.YtlkambpieajplaaGreatPt18
import Derived.Test.YtlkambpieajplaaGreatProg

namespace Go.Vm.GgAwake
open Go.Proofs
set_option maxRecDepth 100000
theorem ok5 : entryOk (acallR Tryz.prog quiet tab5 1000) e5 = true := by kernel_rfl
theorem low5 : entryLow e5 = true := by kernel_rfl
end Go.Vm.GgAwake
