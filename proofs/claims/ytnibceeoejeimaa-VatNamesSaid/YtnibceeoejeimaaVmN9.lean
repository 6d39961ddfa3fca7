/- A text of the proofs of this seat: an evaluator of the model's code, its soundness, and what it has run. -/
import Derived.Test.YtnibceeoejeimaaVmNTab
import Derived.Test.YtnibceeoejeimaaProg
namespace Go.Vm.Names
open Go.Proofs
set_option maxRecDepth 100000
theorem ok1 : entryOk (acall Try.prog 1000) e1 = true := by kernel_rfl
theorem ok10 : entryOk (acall Try.prog 1000) e10 = true := by kernel_rfl
theorem ok11 : entryOk (acall Try.prog 1000) e11 = true := by kernel_rfl
theorem ok12 : entryOk (acall Try.prog 1000) e12 = true := by kernel_rfl
theorem ok15 : entryOk (acall Try.prog 1000) e15 = true := by kernel_rfl
theorem ok17 : entryOk (acall Try.prog 1000) e17 = true := by kernel_rfl
theorem ok28 : entryOk (acall Try.prog 1000) e28 = true := by kernel_rfl
end Go.Vm.Names
