/-
  The contracts of package digest's plain functions of words: right, sigma0, sigma1, bigSigma0, bigSigma1.
-/
import Derived.Test.YtckcfgbcnefbhaaOct1
import Derived.Test.YtckcfgbcnefbhaaSha0
namespace Go.Proofs.Ytckcfgbcnefbhaa
open Go.RowKit
set_option linter.unusedVariables false
set_option maxRecDepth 100000

end Go.Proofs.Ytckcfgbcnefbhaa
