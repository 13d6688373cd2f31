/-
  References: the specification's OldRef, YoungRef, RefKind, PlaceOf at every number; the world stays.
-/
import Derived.Test.YthjfgibflbbgmaaRef2
namespace Go.Proofs.Ythjfgibflbbgmaa.ref
open Go.RowKit

theorem i64_top {n : Int} (h : (Lit.int .i64 n).wf = true) : n < 9223372036854775808 := by
  simp [Lit.wf, IntKind.min, IntKind.max, IntKind.signed, IntKind.bits] at h
  omega
end Go.Proofs.Ythjfgibflbbgmaa.ref
