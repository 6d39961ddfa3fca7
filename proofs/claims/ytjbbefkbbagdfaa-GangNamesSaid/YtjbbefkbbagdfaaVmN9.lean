/- A text of the proofs of this seat: an evaluator of the model's code, its soundness, and what it has run. -/
import Derived.Test.YtjbbefkbbagdfaaVmNTab
import Derived.Test.YtjbbefkbbagdfaaProg
namespace Go.Vm.Names
open Go.Proofs
set_option maxRecDepth 100000
theorem ok20 : entryOk (acallR Try.prog quiet tab20 1000) e20 = true := by kernel_rfl
theorem low20 : entryLow e20 = true := by kernel_rfl
end Go.Vm.Names
