/- A text of the proofs of this seat: an evaluator of the model's code, its soundness, and what it has run. -/
import Derived.Test.YtjbbefkbbagdfaaVmNTab
import Derived.Test.YtjbbefkbbagdfaaProg
namespace Go.Vm.Names
open Go.Proofs
set_option maxRecDepth 100000
theorem ok3 : entryOk (acallR Try.prog quiet tab3 1000) e3 = true := by kernel_rfl
theorem low3 : entryLow e3 = true := by kernel_rfl
theorem ok28 : entryOk (acallR Try.prog quiet tab28 1000) e28 = true := by kernel_rfl
theorem low28 : entryLow e28 = true := by kernel_rfl
end Go.Vm.Names
