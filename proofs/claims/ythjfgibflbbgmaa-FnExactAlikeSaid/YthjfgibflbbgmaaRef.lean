/-
  References: the program's OldRef, YoungRef, RefKind, PlaceOf and the specification's, at every number; the world stays.
-/
import Derived.Test.YthjfgibflbbgmaaRows
import Derived.WalkKit
import Derived.WalkSpells
import Derived.Handy
namespace Go.Proofs.Ythjfgibflbbgmaa.ref
open Go.RowKit

def oldRef (n : Int) : Int := if 1 ≤ n ∧ n ≤ 127 then 2 * n else 0
def youngRef (n : Int) : Int := if 0 ≤ n ∧ n ≤ 399 then 2 * n + 1 else 0
def refKind (r : Int) : Int := if r = 0 then 0 else if 2 ≤ r ∧ r ≤ 254 ∧ r % 2 = 0 then 1 else if 1 ≤ r ∧ r ≤ 799 ∧ r % 2 = 1 then 2 else -1
def placeOf (r : Int) : Int := if refKind r < 1 then -1 else r / 2

theorem within_any (w : World) (x lo hi : Int) :
    Calls Try.prog 85 #[.int .i64 x, .int .i64 lo, .int .i64 hi] w fun e w' => e = .returned (.bool (decide (lo ≤ x) && decide (x ≤ hi))) ∧ w = w' := by
  by_cases h : lo ≤ x
  · have hd : decide (lo ≤ x) = true := by simpa using h
    rw [hd]
    go_enter Try.func85, Try.ntmps85
    go_wp2
    go_ret
    exact ⟨by simp, rfl⟩
  · have hd : decide (lo ≤ x) = false := by simpa using h
    rw [hd]
    go_enter Try.func85, Try.ntmps85
    go_wp2
    go_ret
    exact ⟨rfl, rfl⟩

theorem specIn_any (w : World) (x lo hi : Int) :
    Calls Try.prog 63 #[.int .i64 x, .int .i64 lo, .int .i64 hi] w fun e w' => e = .returned (.bool (decide (lo ≤ x) && decide (x ≤ hi))) ∧ w = w' := by
  by_cases h : lo ≤ x
  · have hd : decide (lo ≤ x) = true := by simpa using h
    rw [hd]
    go_enter Try.func63, Try.ntmps63
    go_wp2
    go_ret
    exact ⟨by simp, rfl⟩
  · have hd : decide (lo ≤ x) = false := by simpa using h
    rw [hd]
    go_enter Try.func63, Try.ntmps63
    go_wp2
    go_ret
    exact ⟨rfl, rfl⟩

end Go.Proofs.Ythjfgibflbbgmaa.ref
