/-
  WidthOf and IsBreak on both sides; the helpers of the laws over tokens (sizes, copies, comparison); the walks of FnExactTokenOk, FnExactWidthOf and FnExactIsBreak.
-/
import Derived.Test.YtegjgbgnpkncbaaDoorImpl
namespace Go.Proofs.YtegjgbgnpkncbaaDoor
open Go.RowKit

/-- what is left when n more are counted. -/
def szV (left : Int) (n : Nat) : Int := if left < (n : Int) then -1 else left - n
def widB (k : Int) (s : ByteArray) (d o : Int) : Int := if tokB k s d o = true then (if k = 0 then s.size else if k = 1 then d else 0) else -1
def brkB (k : Int) (s : ByteArray) (d o : Int) : Bool := tokB k s d o && (decide (k = 1) || decide (k = 4))

end Go.Proofs.YtegjgbgnpkncbaaDoor
