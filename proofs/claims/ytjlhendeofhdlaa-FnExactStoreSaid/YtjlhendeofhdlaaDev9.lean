/-
  What Load returns, by the specification and by the program; nothing that was there is written.
-/
import Derived.Test.YtjlhendeofhdlaaDev8
namespace Go.Proofs.Ytjlhendeofhdlaa.dev
open Go.RowKit
open bb later

theorem i64_in {n : Int} (h : (Lit.int .i64 n).wf = true) : -9223372036854775808 ≤ n ∧ n < 9223372036854775808 := by
  simp [Lit.wf, IntKind.min, IntKind.max, IntKind.signed, IntKind.bits] at h
  omega
/-- What lies in a text of so many bytes. -/
def InText (size : Nat) (x y : Int) : Prop := 0 ≤ x ∧ 0 ≤ y ∧ x ≤ (size : Int) ∧ y ≤ (size : Int) - x

end Go.Proofs.Ytjlhendeofhdlaa.dev
