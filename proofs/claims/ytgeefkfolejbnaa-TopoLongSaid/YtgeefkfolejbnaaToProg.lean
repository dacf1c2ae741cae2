/-
  The contracts of package topo and of its reference, gathered.
-/
import Derived.Test.YtgeefkfolejbnaaToIsP
import Derived.Test.YtgeefkfolejbnaaToPathsP
import Derived.Test.YtgeefkfolejbnaaToRefIs
import Derived.Test.YtgeefkfolejbnaaToRefPaths
import Derived.Test.YtgeefkfolejbnaaToRefLong
import Derived.Test.YtgeefkfolejbnaaGrShort
namespace Go.Proofs.Ytgeefkfolejbnaa
end Go.Proofs.Ytgeefkfolejbnaa
