/- A text of the proofs of this seat: an evaluator of the model's code, its soundness, and what it has run. -/
import Derived.Test.YtgjnhdgnfnbgfaaVmNTab
import Derived.Test.YtgjnhdgnfnbgfaaProg
namespace Go.Vm.Names
open Go.Proofs
set_option maxRecDepth 100000
theorem ok9 : entryOk (acall Try.prog quiet 1000) e9 = true := by kernel_rfl
theorem ok14 : entryOk (acall Try.prog quiet 1000) e14 = true := by kernel_rfl
end Go.Vm.Names
