/- A text of the proofs of this seat: an evaluator of the model's code, its soundness, and what it has run. -/
import Derived.Test.YtgjnhdgnfnbgfaaVmNTab
import Derived.Test.YtgjnhdgnfnbgfaaProg
namespace Go.Vm.Names
open Go.Proofs
set_option maxRecDepth 100000
theorem ok1 : entryOk (acall Try.prog quiet 1000) e1 = true := by kernel_rfl
theorem ok2 : entryOk (acall Try.prog quiet 1000) e2 = true := by kernel_rfl
theorem ok25 : entryOk (acall Try.prog quiet 1000) e25 = true := by kernel_rfl
theorem ok33 : entryOk (acall Try.prog quiet 1000) e33 = true := by kernel_rfl
theorem ok35 : entryOk (acall Try.prog quiet 1000) e35 = true := by kernel_rfl
end Go.Vm.Names
