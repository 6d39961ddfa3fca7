/- A text of the proofs of this seat: an evaluator of the model's code, its soundness, and what it has run. -/
import Derived.Test.YtjbbefkbbagdfaaVmNTab
import Derived.Test.YtjbbefkbbagdfaaProg
namespace Go.Vm.Names
open Go.Proofs
set_option maxRecDepth 100000
theorem ok15 : entryOk (acallR Try.prog quiet tab15 1000) e15 = true := by kernel_rfl
theorem low15 : entryLow e15 = true := by kernel_rfl
theorem ok22 : entryOk (acallR Try.prog quiet tab22 1000) e22 = true := by kernel_rfl
theorem low22 : entryLow e22 = true := by kernel_rfl
end Go.Vm.Names
