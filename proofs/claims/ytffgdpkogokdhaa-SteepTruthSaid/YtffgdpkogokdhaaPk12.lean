/- Texts of the proofs of this seat, put together: StA5. -/
import Derived.Test.YtffgdpkogokdhaaPk11
import Derived.Test.YtffgdpkogokdhaaProg

namespace Go.Vm.StAwake
open Go.Proofs
set_option maxRecDepth 100000
theorem ok8 : entryOk (acall Try.prog quiet 1000) e8 = true := by kernel_rfl
end Go.Vm.StAwake
