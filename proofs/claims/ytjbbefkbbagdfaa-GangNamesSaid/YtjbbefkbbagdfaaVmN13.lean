/- A text of the proofs of this seat: an evaluator of the model's code, its soundness, and what it has run. -/
import Derived.Test.YtjbbefkbbagdfaaVmNTab
import Derived.Test.YtjbbefkbbagdfaaProg
namespace Go.Vm.Names
open Go.Proofs
set_option maxRecDepth 100000
theorem ok4 : entryOk (acallR Try.prog quiet tab4 1000) e4 = true := by kernel_rfl
theorem low4 : entryLow e4 = true := by kernel_rfl
theorem ok27 : entryOk (acallR Try.prog quiet tab27 1000) e27 = true := by kernel_rfl
theorem low27 : entryLow e27 = true := by kernel_rfl
end Go.Vm.Names
