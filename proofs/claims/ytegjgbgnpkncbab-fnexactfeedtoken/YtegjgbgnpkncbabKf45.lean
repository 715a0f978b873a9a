/-
  The model's FinishEngine.
-/
import Derived.Test.YtegjgbgnpkncbabKf44
import Derived.Test.YtegjgbgnpkncbabKfEnr
namespace Go.Proofs.Ytegjgbgnpkncbab
open Go.RowKit
set_option linter.unusedVariables false
def AnsR (w : World) (e : En) (t : ByteArray) (b : Bool) (r : Ending) (w' : World) : Prop := ∃ v, r = .returned (.tuple #[v, .string t, .bool b]) ∧ EngR w' v e ∧ Below w.heap.size w w'
end Go.Proofs.Ytegjgbgnpkncbab
