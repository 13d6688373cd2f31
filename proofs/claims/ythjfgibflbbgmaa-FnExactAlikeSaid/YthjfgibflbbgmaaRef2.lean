/-
  References: the program's OldRef, YoungRef, RefKind, PlaceOf at every number; nothing that was there is written.
-/
import Derived.Test.YthjfgibflbbgmaaRef
import Derived.Below
namespace Go.Proofs.Ythjfgibflbbgmaa.ref
open Go.RowKit

end Go.Proofs.Ythjfgibflbbgmaa.ref
