/-
  SetOk, by the program and by the specification; nothing that was there is written.
-/
import Derived.Test.YtngpmohmnpbcnaaRises
import Derived.Test.YtngpmohmnpbcnaaIn
import Derived.BigQuiet
import Derived.Deep.QuietTactic
namespace Go.Proofs.Ytngpmohmnpbcnaa.ints
open Go.RowKit inr

end Go.Proofs.Ytngpmohmnpbcnaa.ints
