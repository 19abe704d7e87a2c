/- The walk of the document's Pair. -/
import Derived.Test.YtnedbeomflllcaaPc
namespace Go.Proofs.Ytnedbeomflllcaa
open Go.RowKit Tnd

end Go.Proofs.Ytnedbeomflllcaa
