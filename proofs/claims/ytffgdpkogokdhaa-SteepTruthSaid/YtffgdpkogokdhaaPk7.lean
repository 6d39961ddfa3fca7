/- Texts of the proofs of this seat, put together: StA0. -/
import Derived.Test.YtffgdpkogokdhaaPk6
import Derived.Test.YtffgdpkogokdhaaProg

namespace Go.Vm.StAwake
open Go.Proofs
set_option maxRecDepth 100000
theorem ok6 : entryOk (acall Try.prog quiet 1000) e6 = true := by kernel_rfl
end Go.Vm.StAwake
