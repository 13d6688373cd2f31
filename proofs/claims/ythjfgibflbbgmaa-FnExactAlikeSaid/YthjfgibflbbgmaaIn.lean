/-
  Numbers between two limits.
-/
import Derived.Test.YthjfgibflbbgmaaRows
import Derived.WalkKit
import Derived.WalkSpells
import Derived.Handy
import Derived.Below
namespace Go.Proofs.Ythjfgibflbbgmaa.inr
open Go.RowKit

theorem in_any (w : World) (x lo hi : Int) :
    Calls Try.prog 63 #[.int .i64 x, .int .i64 lo, .int .i64 hi] w fun e w' => e = .returned (.bool (decide (lo ≤ x) && decide (x ≤ hi))) ∧ w = w' := by
  by_cases h : lo ≤ x
  · have hd : decide (lo ≤ x) = true := by simpa using h
    rw [hd]
    go_enter Try.func63, Try.ntmps63
    go_wp2
    go_ret
    exact ⟨by simp, rfl⟩
  · have hd : decide (lo ≤ x) = false := by simpa using h
    rw [hd]
    go_enter Try.func63, Try.ntmps63
    go_wp2
    go_ret
    exact ⟨rfl, rfl⟩
theorem within_any (w : World) (x lo hi : Int) :
    Calls Try.prog 85 #[.int .i64 x, .int .i64 lo, .int .i64 hi] w fun e w' => e = .returned (.bool (decide (lo ≤ x) && decide (x ≤ hi))) ∧ w = w' := by
  by_cases h : lo ≤ x
  · have hd : decide (lo ≤ x) = true := by simpa using h
    rw [hd]
    go_enter Try.func85, Try.ntmps85
    go_wp2
    go_ret
    exact ⟨by simp, rfl⟩
  · have hd : decide (lo ≤ x) = false := by simpa using h
    rw [hd]
    go_enter Try.func85, Try.ntmps85
    go_wp2
    go_ret
    exact ⟨rfl, rfl⟩
end Go.Proofs.Ythjfgibflbbgmaa.inr
