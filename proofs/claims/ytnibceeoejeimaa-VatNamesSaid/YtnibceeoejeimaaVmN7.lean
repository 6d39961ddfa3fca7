/- A text of the proofs of this seat: an evaluator of the model's code, its soundness, and what it has run. -/
import Derived.Test.YtnibceeoejeimaaVmNTab
import Derived.Test.YtnibceeoejeimaaProg
namespace Go.Vm.Names
open Go.Proofs
set_option maxRecDepth 100000
theorem ok0 : entryOk (acall Try.prog 1000) e0 = true := by kernel_rfl
theorem ok3 : entryOk (acall Try.prog 1000) e3 = true := by kernel_rfl
theorem ok4 : entryOk (acall Try.prog 1000) e4 = true := by kernel_rfl
theorem ok16 : entryOk (acall Try.prog 1000) e16 = true := by kernel_rfl
theorem ok21 : entryOk (acall Try.prog 1000) e21 = true := by kernel_rfl
end Go.Vm.Names
