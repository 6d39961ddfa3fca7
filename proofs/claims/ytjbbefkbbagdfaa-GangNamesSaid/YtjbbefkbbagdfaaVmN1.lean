/- A text of the proofs of this seat: an evaluator of the model's code, its soundness, and what it has run. -/
import Derived.Test.YtjbbefkbbagdfaaVmNTab
import Derived.Test.YtjbbefkbbagdfaaProg
namespace Go.Vm.Names
open Go.Proofs
set_option maxRecDepth 100000
theorem ok12 : entryOk (acallR Try.prog quiet tab12 1000) e12 = true := by kernel_rfl
theorem low12 : entryLow e12 = true := by kernel_rfl
theorem ok32 : entryOk (acallR Try.prog quiet tab32 1000) e32 = true := by kernel_rfl
theorem low32 : entryLow e32 = true := by kernel_rfl
end Go.Vm.Names
