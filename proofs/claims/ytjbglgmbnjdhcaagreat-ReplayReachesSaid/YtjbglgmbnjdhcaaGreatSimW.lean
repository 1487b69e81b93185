import Derived.Test.YtjbglgmbnjdhcaaGreatSimN
namespace Go.Proofs.YtjbglgmbnjdhcaaGreat
open Go.RowKit

end Go.Proofs.YtjbglgmbnjdhcaaGreat
