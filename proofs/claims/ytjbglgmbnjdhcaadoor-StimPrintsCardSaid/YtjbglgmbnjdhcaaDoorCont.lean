/- This seat's program asks no text for a part of it: nothing is laid here. -/
import Derived.Shelf.Strings.Search3
import Derived.Ground.NamesProg
import Derived.Test.YtjbglgmbnjdhcaaDoorProg
namespace Go.Proofs.YtjbglgmbnjdhcaaDoor
end Go.Proofs.YtjbglgmbnjdhcaaDoor
