/- A text of the proofs of this seat: an evaluator of the model's code, its soundness, and what it has run. -/
import Derived.Test.YtjbbefkbbagdfaaVmNTab
import Derived.Test.YtjbbefkbbagdfaaProg
namespace Go.Vm.Names
open Go.Proofs
set_option maxRecDepth 100000
theorem ok5 : entryOk (acallR Try.prog quiet tab5 1000) e5 = true := by kernel_rfl
theorem low5 : entryLow e5 = true := by kernel_rfl
theorem ok26 : entryOk (acallR Try.prog quiet tab26 1000) e26 = true := by kernel_rfl
theorem low26 : entryLow e26 = true := by kernel_rfl
end Go.Vm.Names
