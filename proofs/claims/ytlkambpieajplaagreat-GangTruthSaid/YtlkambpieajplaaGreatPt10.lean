/- Texts of the proofs of this seat, put together: GgA1. -/
import Derived.Test.YtlkambpieajplaaGreatPt9
import Derived.Test.YtlkambpieajplaaGreatProg

namespace Go.Vm.GgAwake
open Go.Proofs
set_option maxRecDepth 100000
theorem ok8 : entryOk (acallR Tryz.prog quiet tab8 1000) e8 = true := by kernel_rfl
theorem low8 : entryLow e8 = true := by kernel_rfl
end Go.Vm.GgAwake
