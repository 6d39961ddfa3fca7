/- Texts of the proofs of this seat, put together: GgA8. -/
import Derived.Test.YtlkambpieajplaaGreatPt16
import Derived.Test.YtlkambpieajplaaGreatProg

namespace Go.Vm.GgAwake
open Go.Proofs
set_option maxRecDepth 100000
theorem ok3 : entryOk (acallR Tryz.prog quiet tab3 1000) e3 = true := by kernel_rfl
theorem low3 : entryLow e3 = true := by kernel_rfl
end Go.Vm.GgAwake
