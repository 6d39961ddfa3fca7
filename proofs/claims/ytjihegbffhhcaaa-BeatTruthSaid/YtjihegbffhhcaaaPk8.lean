/- Texts of the proofs of this seat, put together: BtA0. -/
import Derived.Test.YtjihegbffhhcaaaPk7
import Derived.Test.YtjihegbffhhcaaaProg

namespace Go.Vm.BtAwake
open Go.Proofs
set_option maxRecDepth 100000
theorem ok3 : entryOk (acall Try.prog quiet 1000) e3 = true := by kernel_rfl
end Go.Vm.BtAwake
