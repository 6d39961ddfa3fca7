/- Texts of the proofs of this seat, put together: StA1. -/
import Derived.Test.YtffgdpkogokdhaaPk7
import Derived.Test.YtffgdpkogokdhaaProg

namespace Go.Vm.StAwake
open Go.Proofs
set_option maxRecDepth 100000
theorem ok4 : entryOk (acall Try.prog quiet 1000) e4 = true := by kernel_rfl
end Go.Vm.StAwake
