/- Texts of the proofs of this seat, put together: GgA9. -/
import Derived.Test.YtlkambpieajplaaGreatPt17
import Derived.Test.YtlkambpieajplaaGreatProg

namespace Go.Vm.GgAwake
open Go.Proofs
set_option maxRecDepth 100000
theorem ok4 : entryOk (acallR Tryz.prog quiet tab4 1000) e4 = true := by kernel_rfl
theorem low4 : entryLow e4 = true := by kernel_rfl
end Go.Vm.GgAwake
