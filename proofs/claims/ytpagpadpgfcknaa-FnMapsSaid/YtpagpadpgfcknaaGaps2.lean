/-
  The gaps of a map, by the program; nothing that was there is written.
-/
import Derived.Test.YtpagpadpgfcknaaGaps
namespace Go.Proofs.Ytpagpadpgfcknaa.lb
open Go.RowKit
open ints

end Go.Proofs.Ytpagpadpgfcknaa.lb
