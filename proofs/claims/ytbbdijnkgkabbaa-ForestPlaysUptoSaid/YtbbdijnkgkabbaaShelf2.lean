/- The shelf's contracts of generic functions are laid in the shelf's own text here. -/
import Derived.Shelf.SlicesQ.Equal
import Derived.Shelf.SlMaps.Clone
import Derived.Test.YtbbdijnkgkabbaaShelf
