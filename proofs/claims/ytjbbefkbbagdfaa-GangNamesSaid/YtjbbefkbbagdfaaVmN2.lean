/- A text of the proofs of this seat: an evaluator of the model's code, its soundness, and what it has run. -/
import Derived.Test.YtjbbefkbbagdfaaVmNTab
import Derived.Test.YtjbbefkbbagdfaaProg
namespace Go.Vm.Names
open Go.Proofs
set_option maxRecDepth 100000
theorem ok13 : entryOk (acallR Try.prog quiet tab13 1000) e13 = true := by kernel_rfl
theorem low13 : entryLow e13 = true := by kernel_rfl
theorem ok24 : entryOk (acallR Try.prog quiet tab24 1000) e24 = true := by kernel_rfl
theorem low24 : entryLow e24 = true := by kernel_rfl
end Go.Vm.Names
