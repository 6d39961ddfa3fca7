/- Texts of the proofs of this seat, put together: StA2. -/
import Derived.Test.YtffgdpkogokdhaaPk8
import Derived.Test.YtffgdpkogokdhaaProg

namespace Go.Vm.StAwake
open Go.Proofs
set_option maxRecDepth 100000
theorem ok2 : entryOk (acall Try.prog quiet 1000) e2 = true := by kernel_rfl
end Go.Vm.StAwake
