/- The document's own Check, first part: sizes, what is defined, what is used: each answers what the program's answers. -/
import Derived.Test.YtjbglgmbnjdhcaaDoorSizes
import Derived.Test.YtjbglgmbnjdhcaaDoorUsed
namespace Go.Proofs.YtjbglgmbnjdhcaaDoor
open Go.RowKit

end Go.Proofs.YtjbglgmbnjdhcaaDoor

namespace Go.Proofs.YtjbglgmbnjdhcaaDoor
open Go.RowKit

end Go.Proofs.YtjbglgmbnjdhcaaDoor
