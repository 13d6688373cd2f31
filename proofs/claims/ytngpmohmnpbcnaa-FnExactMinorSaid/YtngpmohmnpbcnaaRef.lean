/-
  References: the program's OldRef, YoungRef, RefKind, PlaceOf and the specification's, at every number; the world stays.
-/
import Derived.Test.YtngpmohmnpbcnaaRows
import Derived.WalkKit
import Derived.WalkSpells
import Derived.Handy
namespace Go.Proofs.Ytngpmohmnpbcnaa.ref
open Go.RowKit

def oldRef (n : Int) : Int := if 1 ≤ n ∧ n ≤ 127 then 2 * n else 0
def youngRef (n : Int) : Int := if 0 ≤ n ∧ n ≤ 399 then 2 * n + 1 else 0
def refKind (r : Int) : Int := if r = 0 then 0 else if 2 ≤ r ∧ r ≤ 254 ∧ r % 2 = 0 then 1 else if 1 ≤ r ∧ r ≤ 799 ∧ r % 2 = 1 then 2 else -1
def placeOf (r : Int) : Int := if refKind r < 1 then -1 else r / 2

theorem within_any (w : World) (x lo hi : Int) :
    Calls Try.prog 67 #[.int .i64 x, .int .i64 lo, .int .i64 hi] w fun e w' => e = .returned (.bool (decide (lo ≤ x) && decide (x ≤ hi))) ∧ w = w' := by
  by_cases h : lo ≤ x
  · have hd : decide (lo ≤ x) = true := by simpa using h
    rw [hd]
    go_enter Try.func67, Try.ntmps67
    go_wp2
    go_ret
    exact ⟨by simp, rfl⟩
  · have hd : decide (lo ≤ x) = false := by simpa using h
    rw [hd]
    go_enter Try.func67, Try.ntmps67
    go_wp2
    go_ret
    exact ⟨rfl, rfl⟩

theorem specIn_any (w : World) (x lo hi : Int) :
    Calls Try.prog 91 #[.int .i64 x, .int .i64 lo, .int .i64 hi] w fun e w' => e = .returned (.bool (decide (lo ≤ x) && decide (x ≤ hi))) ∧ w = w' := by
  by_cases h : lo ≤ x
  · have hd : decide (lo ≤ x) = true := by simpa using h
    rw [hd]
    go_enter Try.func91, Try.ntmps91
    go_wp2
    go_ret
    exact ⟨by simp, rfl⟩
  · have hd : decide (lo ≤ x) = false := by simpa using h
    rw [hd]
    go_enter Try.func91, Try.ntmps91
    go_wp2
    go_ret
    exact ⟨rfl, rfl⟩

theorem oldOf_in (n : Int) (w : World) (h0 : 1 ≤ n) (h1 : n ≤ 127) :
    Calls Try.prog 93 #[.int .i64 n] w fun e w' => e = .returned (.iface 114 (.int .i64 n)) ∧ w = w' := by
  have hc := within_any w n 1 127
  rw [decide_eq_true h0, decide_eq_true h1] at hc
  go_enter Try.func93, Try.ntmps93
  go_wp2_with fail
  refine hc.mono ?_
  rintro e w1 ⟨rfl, rfl⟩
  go_wp2
  go_ret
  exact ⟨rfl, rfl⟩
theorem oldOf_out (n : Int) (w : World) (h : ¬ (1 ≤ n ∧ n ≤ 127)) :
    Calls Try.prog 93 #[.int .i64 n] w fun e w' => e = .returned (.iface 115 (.agg #[])) ∧ w = w' := by
  have hc := within_any w n 1 127
  rw [show (decide (1 ≤ n) && decide (n ≤ 127)) = false by simp; omega] at hc
  go_enter Try.func93, Try.ntmps93
  go_wp2_with fail
  refine hc.mono ?_
  rintro e w1 ⟨rfl, rfl⟩
  go_wp2
  go_ret
  exact ⟨rfl, rfl⟩
theorem youngOf_in (n : Int) (w : World) (h0 : 0 ≤ n) (h1 : n ≤ 399) :
    Calls Try.prog 94 #[.int .i64 n] w fun e w' => e = .returned (.iface 69 (.int .i64 n)) ∧ w = w' := by
  have hc := within_any w n 0 399
  rw [decide_eq_true h0, decide_eq_true h1] at hc
  go_enter Try.func94, Try.ntmps94
  go_wp2_with fail
  refine hc.mono ?_
  rintro e w1 ⟨rfl, rfl⟩
  go_wp2
  go_ret
  exact ⟨rfl, rfl⟩
theorem youngOf_out (n : Int) (w : World) (h : ¬ (0 ≤ n ∧ n ≤ 399)) :
    Calls Try.prog 94 #[.int .i64 n] w fun e w' => e = .returned (.iface 115 (.agg #[])) ∧ w = w' := by
  have hc := within_any w n 0 399
  rw [show (decide (0 ≤ n) && decide (n ≤ 399)) = false by simp; omega] at hc
  go_enter Try.func94, Try.ntmps94
  go_wp2_with fail
  refine hc.mono ?_
  rintro e w1 ⟨rfl, rfl⟩
  go_wp2
  go_ret
  exact ⟨rfl, rfl⟩
end Go.Proofs.Ytngpmohmnpbcnaa.ref
