/- A text of the proofs of this seat: an evaluator of the model's code, its soundness, and what it has run. -/
import Derived.Test.YtnibceeoejeimaaVmNTab
import Derived.Test.YtnibceeoejeimaaProg
namespace Go.Vm.Names
open Go.Proofs
set_option maxRecDepth 100000
theorem ok2 : entryOk (acall Try.prog 1000) e2 = true := by kernel_rfl
theorem ok5 : entryOk (acall Try.prog 1000) e5 = true := by kernel_rfl
end Go.Vm.Names
