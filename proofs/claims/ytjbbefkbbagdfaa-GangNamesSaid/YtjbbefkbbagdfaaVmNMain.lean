/- A text of the proofs of this seat: an evaluator of the model's code, its soundness, and what it has run. -/
import Derived.Test.YtjbbefkbbagdfaaVmNTab
import Derived.Test.YtjbbefkbbagdfaaProg
namespace Go.Vm.Names
open Go.Proofs
set_option maxRecDepth 100000
def isTrue (x : Option (Value × AHeap)) : Bool := match x with
  | some (.bool true, _) => true
  | _ => false
theorem main_ok : isTrue (acallR Try.prog quiet tab33 1000 (.func (.func 3) #[] #[]) [] AHeap.empty) = true := by kernel_rfl
end Go.Vm.Names
