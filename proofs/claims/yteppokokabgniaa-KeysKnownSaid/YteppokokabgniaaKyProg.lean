/-
  What the laws ask of the program's keys: the predicate PK (XKyOwn) and a contract for each call.
-/
import Derived.Test.YteppokokabgniaaKyRefPut
import Derived.Test.YteppokokabgniaaKyPut
import Derived.Test.YteppokokabgniaaKyAll
