/-
  References: the program's OldRef, YoungRef, RefKind, PlaceOf at every number; nothing that was there is written.
-/
import Derived.Test.YtknjlohhaibpoaaRef
import Derived.Below
namespace Go.Proofs.Ytknjlohhaibpoaa.ref
open Go.RowKit

end Go.Proofs.Ytknjlohhaibpoaa.ref
