/- A text of the proofs of this seat: an evaluator of the model's code, its soundness, and what it has run. -/
import Derived.Test.YtjbbefkbbagdfaaVmNTab
import Derived.Test.YtjbbefkbbagdfaaProg
namespace Go.Vm.Names
open Go.Proofs
set_option maxRecDepth 100000
theorem ok25 : entryOk (acallR Try.prog quiet tab25 1000) e25 = true := by kernel_rfl
theorem low25 : entryLow e25 = true := by kernel_rfl
theorem ok31 : entryOk (acallR Try.prog quiet tab31 1000) e31 = true := by kernel_rfl
theorem low31 : entryLow e31 = true := by kernel_rfl
end Go.Vm.Names
