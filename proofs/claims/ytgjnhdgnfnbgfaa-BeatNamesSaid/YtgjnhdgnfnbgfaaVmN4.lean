/- A text of the proofs of this seat: an evaluator of the model's code, its soundness, and what it has run. -/
import Derived.Test.YtgjnhdgnfnbgfaaVmNTab
import Derived.Test.YtgjnhdgnfnbgfaaProg
namespace Go.Vm.Names
open Go.Proofs
set_option maxRecDepth 100000
theorem ok5 : entryOk (acall Try.prog quiet 1000) e5 = true := by kernel_rfl
theorem ok16 : entryOk (acall Try.prog quiet 1000) e16 = true := by kernel_rfl
theorem ok31 : entryOk (acall Try.prog quiet 1000) e31 = true := by kernel_rfl
end Go.Vm.Names
