/- Texts of the proofs of this seat, put together: BtA1. -/
import Derived.Test.YtjihegbffhhcaaaPk8
import Derived.Test.YtjihegbffhhcaaaProg

namespace Go.Vm.BtAwake
open Go.Proofs
set_option maxRecDepth 100000
theorem ok5 : entryOk (acall Try.prog quiet 1000) e5 = true := by kernel_rfl
theorem ok6 : entryOk (acall Try.prog quiet 1000) e6 = true := by kernel_rfl
end Go.Vm.BtAwake
