/- A text of the proofs of this seat: an evaluator of the model's code, its soundness, and what it has run. -/
import Derived.Test.YtnibceeoejeimaaVmNTab
import Derived.Test.YtnibceeoejeimaaProg
namespace Go.Vm.Names
open Go.Proofs
set_option maxRecDepth 100000
theorem ok29 : entryOk (acall Try.prog 1000) e29 = true := by kernel_rfl
theorem ok30 : entryOk (acall Try.prog 1000) e30 = true := by kernel_rfl
theorem ok33 : entryOk (acall Try.prog 1000) e33 = true := by kernel_rfl
end Go.Vm.Names
