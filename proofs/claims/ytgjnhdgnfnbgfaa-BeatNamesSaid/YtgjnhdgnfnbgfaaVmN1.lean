/- A text of the proofs of this seat: an evaluator of the model's code, its soundness, and what it has run. -/
import Derived.Test.YtgjnhdgnfnbgfaaVmNTab
import Derived.Test.YtgjnhdgnfnbgfaaProg
namespace Go.Vm.Names
open Go.Proofs
set_option maxRecDepth 100000
theorem ok6 : entryOk (acall Try.prog quiet 1000) e6 = true := by kernel_rfl
end Go.Vm.Names
