/- Texts of the proofs of this seat, put together: StA3. -/
import Derived.Test.YtffgdpkogokdhaaPk9
import Derived.Test.YtffgdpkogokdhaaProg

namespace Go.Vm.StAwake
open Go.Proofs
set_option maxRecDepth 100000
theorem ok0 : entryOk (acall Try.prog quiet 1000) e0 = true := by kernel_rfl
theorem ok1 : entryOk (acall Try.prog quiet 1000) e1 = true := by kernel_rfl
end Go.Vm.StAwake
