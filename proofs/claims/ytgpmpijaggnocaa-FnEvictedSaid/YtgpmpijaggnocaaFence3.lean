/-
  What the specification's Fence returns, and that the program's answers alike.
-/
import Derived.Test.YtgpmpijaggnocaaFence2
namespace Go.Proofs.Ytgpmpijaggnocaa.dev
open Go.RowKit Go.Maps
open bb later

end Go.Proofs.Ytgpmpijaggnocaa.dev
