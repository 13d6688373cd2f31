/-
  What the specification's Seen returns; nothing that was there is written.
-/
import Derived.Test.YtjlhendeofhdlaaDev6
import Derived.RegionTactic
import Derived.ChangeAlike
namespace Go.Proofs.Ytjlhendeofhdlaa.dev
open Go.RowKit
open bb later

end Go.Proofs.Ytjlhendeofhdlaa.dev
