/- A text of the proofs of this seat: an evaluator of the model's code, its soundness, and what it has run. -/
import Derived.Test.YtjbbefkbbagdfaaVmNTab
import Derived.Test.YtjbbefkbbagdfaaProg
namespace Go.Vm.Names
open Go.Proofs
set_option maxRecDepth 100000
theorem ok2 : entryOk (acallR Try.prog quiet tab2 1000) e2 = true := by kernel_rfl
theorem low2 : entryLow e2 = true := by kernel_rfl
theorem ok29 : entryOk (acallR Try.prog quiet tab29 1000) e29 = true := by kernel_rfl
theorem low29 : entryLow e29 = true := by kernel_rfl
end Go.Vm.Names
