/- Texts of the proofs of this seat, put together: StA4. -/
import Derived.Test.YtffgdpkogokdhaaPk10
import Derived.Test.YtffgdpkogokdhaaProg

namespace Go.Vm.StAwake
open Go.Proofs
set_option maxRecDepth 100000
theorem ok3 : entryOk (acall Try.prog quiet 1000) e3 = true := by kernel_rfl
theorem ok5 : entryOk (acall Try.prog quiet 1000) e5 = true := by kernel_rfl
end Go.Vm.StAwake
