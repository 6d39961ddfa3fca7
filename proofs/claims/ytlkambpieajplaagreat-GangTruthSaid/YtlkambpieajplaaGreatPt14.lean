/- Texts of the proofs of this seat, put together: GgA5. -/
import Derived.Test.YtlkambpieajplaaGreatPt13
import Derived.Test.YtlkambpieajplaaGreatProg

namespace Go.Vm.GgAwake
open Go.Proofs
set_option maxRecDepth 100000
theorem ok12 : entryOk (acallR Tryz.prog quiet tab12 1000) e12 = true := by kernel_rfl
theorem low12 : entryLow e12 = true := by kernel_rfl
end Go.Vm.GgAwake
