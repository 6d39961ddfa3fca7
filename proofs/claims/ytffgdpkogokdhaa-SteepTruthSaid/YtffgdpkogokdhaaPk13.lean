/- Texts of the proofs of this seat, put together: StA6. -/
import Derived.Test.YtffgdpkogokdhaaPk12
import Derived.Test.YtffgdpkogokdhaaProg

namespace Go.Vm.StAwake
open Go.Proofs
set_option maxRecDepth 100000
theorem ok7 : entryOk (acall Try.prog quiet 1000) e7 = true := by kernel_rfl
end Go.Vm.StAwake
