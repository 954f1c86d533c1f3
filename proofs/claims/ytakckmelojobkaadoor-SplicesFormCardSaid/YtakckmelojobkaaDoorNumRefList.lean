/- The document's PutList. -/
import Derived.Test.YtakckmelojobkaaDoorNumPure
import Derived.Test.YtakckmelojobkaaDoorNumPutList
namespace Go.Proofs.YtakckmelojobkaaDoor.num
open Go.RowKit Go.Lib

end Go.Proofs.YtakckmelojobkaaDoor.num
