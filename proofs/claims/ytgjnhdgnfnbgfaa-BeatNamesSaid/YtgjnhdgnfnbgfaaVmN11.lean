/- A text of the proofs of this seat: an evaluator of the model's code, its soundness, and what it has run. -/
import Derived.Test.YtgjnhdgnfnbgfaaVmNTab
import Derived.Test.YtgjnhdgnfnbgfaaProg
namespace Go.Vm.Names
open Go.Proofs
set_option maxRecDepth 100000
theorem ok18 : entryOk (acall Try.prog quiet 1000) e18 = true := by kernel_rfl
theorem ok22 : entryOk (acall Try.prog quiet 1000) e22 = true := by kernel_rfl
theorem ok23 : entryOk (acall Try.prog quiet 1000) e23 = true := by kernel_rfl
theorem ok28 : entryOk (acall Try.prog quiet 1000) e28 = true := by kernel_rfl
end Go.Vm.Names
