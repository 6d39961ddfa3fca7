/- A text of the proofs of this seat: an evaluator of the model's code, its soundness, and what it has run. -/
import Derived.Test.YtjbbefkbbagdfaaVmNTab
import Derived.Test.YtjbbefkbbagdfaaProg
namespace Go.Vm.Names
open Go.Proofs
set_option maxRecDepth 100000
theorem ok14 : entryOk (acallR Try.prog quiet tab14 1000) e14 = true := by kernel_rfl
theorem low14 : entryLow e14 = true := by kernel_rfl
theorem ok23 : entryOk (acallR Try.prog quiet tab23 1000) e23 = true := by kernel_rfl
theorem low23 : entryLow e23 = true := by kernel_rfl
end Go.Vm.Names
