/-
  Names the text with the library's contracts.
-/
import Derived.Test.YtlhlpcfjoccgcaaShf0
namespace Go.Proofs.Ytlhlpcfjoccgcaa
end Go.Proofs.Ytlhlpcfjoccgcaa
