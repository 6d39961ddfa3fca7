/- A text of the proofs of this seat: an evaluator of the model's code, its soundness, and what it has run. -/
import Derived.Test.YtnibceeoejeimaaVmNTab
import Derived.Test.YtnibceeoejeimaaProg
namespace Go.Vm.Names
open Go.Proofs
set_option maxRecDepth 100000
theorem ok18 : entryOk (acall Try.prog 1000) e18 = true := by kernel_rfl
theorem ok19 : entryOk (acall Try.prog 1000) e19 = true := by kernel_rfl
theorem ok20 : entryOk (acall Try.prog 1000) e20 = true := by kernel_rfl
theorem ok22 : entryOk (acall Try.prog 1000) e22 = true := by kernel_rfl
theorem ok23 : entryOk (acall Try.prog 1000) e23 = true := by kernel_rfl
theorem ok26 : entryOk (acall Try.prog 1000) e26 = true := by kernel_rfl
end Go.Vm.Names
