/-
  The conversion of bytes to a string under another name: a region's walk then leaves it where it stands, and takes it by its equation in the world at hand.
-/
import Derived.Test.YtipnkhghdneeoaaAlive4
import Derived.Deep.RegionHeld3
namespace Go.Proofs.Ytipnkhghdneeoaa
open Go.RowKit
set_option linter.unusedVariables false
set_option maxRecDepth 100000

def opConv (x : Operand) : Op := Op.convert 29 9 x
theorem opConv_is (x : Operand) : Op.convert 29 9 x = opConv x := rfl
theorem opConv_back (x : Operand) : opConv x = Op.convert 29 9 x := rfl

end Go.Proofs.Ytipnkhghdneeoaa
