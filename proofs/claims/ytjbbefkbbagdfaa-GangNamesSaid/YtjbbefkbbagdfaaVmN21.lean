/- A text of the proofs of this seat: an evaluator of the model's code, its soundness, and what it has run. -/
import Derived.Test.YtjbbefkbbagdfaaVmNTab
import Derived.Test.YtjbbefkbbagdfaaProg
namespace Go.Vm.Names
open Go.Proofs
set_option maxRecDepth 100000
theorem ok1 : entryOk (acallR Try.prog quiet tab1 1000) e1 = true := by kernel_rfl
theorem low1 : entryLow e1 = true := by kernel_rfl
theorem ok30 : entryOk (acallR Try.prog quiet tab30 1000) e30 = true := by kernel_rfl
theorem low30 : entryLow e30 = true := by kernel_rfl
end Go.Vm.Names
