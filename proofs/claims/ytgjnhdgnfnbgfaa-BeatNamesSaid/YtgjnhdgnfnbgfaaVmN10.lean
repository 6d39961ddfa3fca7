/- A text of the proofs of this seat: an evaluator of the model's code, its soundness, and what it has run. -/
import Derived.Test.YtgjnhdgnfnbgfaaVmNTab
import Derived.Test.YtgjnhdgnfnbgfaaProg
namespace Go.Vm.Names
open Go.Proofs
set_option maxRecDepth 100000
theorem ok3 : entryOk (acall Try.prog quiet 1000) e3 = true := by kernel_rfl
theorem ok4 : entryOk (acall Try.prog quiet 1000) e4 = true := by kernel_rfl
theorem ok15 : entryOk (acall Try.prog quiet 1000) e15 = true := by kernel_rfl
theorem ok19 : entryOk (acall Try.prog quiet 1000) e19 = true := by kernel_rfl
theorem ok20 : entryOk (acall Try.prog quiet 1000) e20 = true := by kernel_rfl
theorem ok21 : entryOk (acall Try.prog quiet 1000) e21 = true := by kernel_rfl
theorem ok24 : entryOk (acall Try.prog quiet 1000) e24 = true := by kernel_rfl
theorem ok26 : entryOk (acall Try.prog quiet 1000) e26 = true := by kernel_rfl
theorem ok34 : entryOk (acall Try.prog quiet 1000) e34 = true := by kernel_rfl
end Go.Vm.Names
