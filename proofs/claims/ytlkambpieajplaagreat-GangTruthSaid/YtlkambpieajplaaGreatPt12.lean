/- Texts of the proofs of this seat, put together: GgA3. -/
import Derived.Test.YtlkambpieajplaaGreatPt11
import Derived.Test.YtlkambpieajplaaGreatProg

namespace Go.Vm.GgAwake
open Go.Proofs
set_option maxRecDepth 100000
theorem ok10 : entryOk (acallR Tryz.prog quiet tab10 1000) e10 = true := by kernel_rfl
theorem low10 : entryLow e10 = true := by kernel_rfl
end Go.Vm.GgAwake
