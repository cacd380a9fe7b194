/- The contracts of Ints and cuts. -/
import Derived.Test.YtaohbpmefcdipaaDoorCtSizes
namespace Go.Proofs.YtaohbpmefcdipaaDoor.Ct
open Go.RowKit

end Go.Proofs.YtaohbpmefcdipaaDoor.Ct
