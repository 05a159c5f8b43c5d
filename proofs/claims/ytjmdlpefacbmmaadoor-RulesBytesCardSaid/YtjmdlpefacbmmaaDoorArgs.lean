/-
  Arguments opened: a slice of bytes, of ints, as lists.
-/
import Derived.Test.YtjmdlpefacbmmaaDoorArgI
import Derived.Test.YtjmdlpefacbmmaaDoorArgB
