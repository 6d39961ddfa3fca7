/- Texts of the proofs of this seat, put together: BtA3. -/
import Derived.Test.YtjihegbffhhcaaaPk10
import Derived.Test.YtjihegbffhhcaaaProg

namespace Go.Vm.BtAwake
open Go.Proofs
set_option maxRecDepth 100000
theorem ok0 : entryOk (acall Try.prog quiet 1000) e0 = true := by kernel_rfl
theorem ok1 : entryOk (acall Try.prog quiet 1000) e1 = true := by kernel_rfl
theorem ok2 : entryOk (acall Try.prog quiet 1000) e2 = true := by kernel_rfl
theorem ok4 : entryOk (acall Try.prog quiet 1000) e4 = true := by kernel_rfl
theorem ok10 : entryOk (acall Try.prog quiet 1000) e10 = true := by kernel_rfl
end Go.Vm.BtAwake
