/- Texts of the proofs of this seat, put together: BtA2. -/
import Derived.Test.YtjihegbffhhcaaaPk9
import Derived.Test.YtjihegbffhhcaaaProg

namespace Go.Vm.BtAwake
open Go.Proofs
set_option maxRecDepth 100000
theorem ok7 : entryOk (acall Try.prog quiet 1000) e7 = true := by kernel_rfl
theorem ok8 : entryOk (acall Try.prog quiet 1000) e8 = true := by kernel_rfl
theorem ok9 : entryOk (acall Try.prog quiet 1000) e9 = true := by kernel_rfl
theorem ok11 : entryOk (acall Try.prog quiet 1000) e11 = true := by kernel_rfl
end Go.Vm.BtAwake
