/- Texts of the proofs of this seat, put together: GgA2. -/
import Derived.Test.YtlkambpieajplaaGreatPt10
import Derived.Test.YtlkambpieajplaaGreatProg

namespace Go.Vm.GgAwake
open Go.Proofs
set_option maxRecDepth 100000
theorem ok9 : entryOk (acallR Tryz.prog quiet tab9 1000) e9 = true := by kernel_rfl
theorem low9 : entryLow e9 = true := by kernel_rfl
end Go.Vm.GgAwake
