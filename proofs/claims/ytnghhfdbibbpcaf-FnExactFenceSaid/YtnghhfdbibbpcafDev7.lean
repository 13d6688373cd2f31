/-
  What the specification's Seen returns; nothing that was there is written.
-/
import Derived.Test.YtnghhfdbibbpcafDev6
import Derived.RegionTactic
import Derived.ChangeAlike
namespace Go.Proofs.Ytnghhfdbibbpcaf.dev
open Go.RowKit
open bb later

end Go.Proofs.Ytnghhfdbibbpcaf.dev
