/- Texts of the proofs of this seat, put together: GgA4. -/
import Derived.Test.YtlkambpieajplaaGreatPt12
import Derived.Test.YtlkambpieajplaaGreatProg

namespace Go.Vm.GgAwake
open Go.Proofs
set_option maxRecDepth 100000
theorem ok11 : entryOk (acallR Tryz.prog quiet tab11 1000) e11 = true := by kernel_rfl
theorem low11 : entryLow e11 = true := by kernel_rfl
end Go.Vm.GgAwake
