/-
  The contracts of package digest's plain functions of words: right, sigma0, sigma1, bigSigma0, bigSigma1.
-/
import Derived.Test.YtjccdfnhcifgiaaOct1
import Derived.Test.YtjccdfnhcifgiaaSha0
namespace Go.Proofs.Ytjccdfnhcifgiaa
open Go.RowKit
set_option linter.unusedVariables false
set_option maxRecDepth 100000

end Go.Proofs.Ytjccdfnhcifgiaa
