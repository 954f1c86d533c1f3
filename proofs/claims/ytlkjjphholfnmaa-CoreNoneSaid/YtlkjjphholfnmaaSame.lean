/- The law's Same, the document's Same, the program's Same: whether two lists of texts are one. -/
import Derived.Test.YtlkjjphholfnmaaWords
namespace Go.Proofs.Ytlkjjphholfnmaa
open Go.RowKit Go.Lib

end Go.Proofs.Ytlkjjphholfnmaa
