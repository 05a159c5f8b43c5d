/-
  Arguments opened: a slice of bytes, of ints, as lists.
-/
import Derived.Test.YtmmjpkijnecmcaaDoorArgI
import Derived.Test.YtmmjpkijnecmcaaDoorArgB
