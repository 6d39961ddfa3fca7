/- A text of the proofs of this seat: an evaluator of the model's code, its soundness, and what it has run. -/
import Derived.Test.YtgjnhdgnfnbgfaaVmNTab
import Derived.Test.YtgjnhdgnfnbgfaaProg
namespace Go.Vm.Names
open Go.Proofs
set_option maxRecDepth 100000
theorem ok13 : entryOk (acall Try.prog quiet 1000) e13 = true := by kernel_rfl
theorem ok17 : entryOk (acall Try.prog quiet 1000) e17 = true := by kernel_rfl
end Go.Vm.Names
