/- A text of the proofs of this seat: an evaluator of the model's code, its soundness, and what it has run. -/
import Derived.Test.YtnibceeoejeimaaVmNTab
import Derived.Test.YtnibceeoejeimaaProg
namespace Go.Vm.Names
open Go.Proofs
set_option maxRecDepth 100000
theorem ok13 : entryOk (acall Try.prog 1000) e13 = true := by kernel_rfl
theorem ok14 : entryOk (acall Try.prog 1000) e14 = true := by kernel_rfl
theorem ok25 : entryOk (acall Try.prog 1000) e25 = true := by kernel_rfl
theorem ok32 : entryOk (acall Try.prog 1000) e32 = true := by kernel_rfl
end Go.Vm.Names
