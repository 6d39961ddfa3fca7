/- A text of the proofs of this seat: an evaluator of the model's code, its soundness, and what it has run. -/
import Derived.Test.YtgbhefflicibjaaVmNTab
import Derived.Test.YtgbhefflicibjaaProg
namespace Go.Vm.Names
open Go.Proofs
set_option maxRecDepth 100000
theorem ok5 : entryOk (acall Try.prog quiet 1000) e5 = true := by kernel_rfl
theorem ok24 : entryOk (acall Try.prog quiet 1000) e24 = true := by kernel_rfl
theorem ok36 : entryOk (acall Try.prog quiet 1000) e36 = true := by kernel_rfl
end Go.Vm.Names
