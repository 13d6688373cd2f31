/-
  SetOk, by the program and by the specification; nothing that was there is written.
-/
import Derived.Test.YtmnmkbhfilfifaaRises
import Derived.Test.YtmnmkbhfilfifaaIn
import Derived.BigQuiet
import Derived.Deep.QuietTactic
namespace Go.Proofs.Ytmnmkbhfilfifaa.ints
open Go.RowKit inr

end Go.Proofs.Ytmnmkbhfilfifaa.ints
