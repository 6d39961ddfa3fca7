/- Texts of the proofs of this seat, put together: GgA0. -/
import Derived.Test.YtlkambpieajplaaGreatPt8
import Derived.Test.YtlkambpieajplaaGreatProg

namespace Go.Vm.GgAwake
open Go.Proofs
set_option maxRecDepth 100000
theorem ok7 : entryOk (acallR Tryz.prog quiet tab7 1000) e7 = true := by kernel_rfl
theorem low7 : entryLow e7 = true := by kernel_rfl
end Go.Vm.GgAwake
