/-
  SetOk, by the program and by the specification; nothing that was there is written.
-/
import Derived.Test.YthjfgibflbbgmaaRises
import Derived.Test.YthjfgibflbbgmaaIn
import Derived.BigQuiet
import Derived.Deep.QuietTactic
namespace Go.Proofs.Ythjfgibflbbgmaa.ints
open Go.RowKit inr

end Go.Proofs.Ythjfgibflbbgmaa.ints
