/- A text of the proofs of this seat: an evaluator of the model's code, its soundness, and what it has run. -/
import Derived.Test.YtjbbefkbbagdfaaVmNTab
import Derived.Test.YtjbbefkbbagdfaaProg
namespace Go.Vm.Names
open Go.Proofs
set_option maxRecDepth 100000
theorem ok0 : entryOk (acallR Try.prog quiet tab0 1000) e0 = true := by kernel_rfl
theorem low0 : entryLow e0 = true := by kernel_rfl
theorem ok6 : entryOk (acallR Try.prog quiet tab6 1000) e6 = true := by kernel_rfl
theorem low6 : entryLow e6 = true := by kernel_rfl
end Go.Vm.Names
