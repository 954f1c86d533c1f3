/- The law's Same, the document's Same, the program's Same: whether two lists of texts are one. -/
import Derived.Test.YtojcbjificodaaaWords
namespace Go.Proofs.Ytojcbjificodaaa
open Go.RowKit Go.Lib

end Go.Proofs.Ytojcbjificodaaa
