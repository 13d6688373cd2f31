/-
  What Seen and Load return, by the specification and by the program; nothing that was there is written.
-/
import Derived.Test.YtjlhendeofhdlaaDev7
namespace Go.Proofs.Ytjlhendeofhdlaa.dev
open Go.RowKit
open bb later

theorem seen_some {safe : ByteArray} {ls : List Ln} (h : DevOk safe ls) : (seenStr safe ls).size = safe.size := by
  have := prefix_ok h ls.length
  rw [List.take_length] at this
  show (seenL safe.data.toList ls).toArray.size = safe.size
  simpa using this

end Go.Proofs.Ytjlhendeofhdlaa.dev
