/- The law's Same, the document's Same, the program's Same: whether two lists of texts are one. -/
import Derived.Test.YtdbeedhedjhamaaWords
namespace Go.Proofs.Ytdbeedhedjhamaa
open Go.RowKit Go.Lib

end Go.Proofs.Ytdbeedhedjhamaa
