/-
  References that are turned: the first place at which a number stands, and what stands there in another list; by the program and by the specification.
-/
import Derived.Test.YthjfgibflbbgmaaOPut
namespace Go.Proofs.Ythjfgibflbbgmaa.obj
open Go.RowKit
open kinds ints ref

theorem getD_at (xs : List Int) (k : Nat) (h : k < xs.length) : xs[k] = xs.getD k 0 := by
  rw [List.getD_eq_getElem?_getD, List.getElem?_eq_getElem h]; rfl
/-- The first place among the first k, or -1. -/
def seek (r : Int) (l : List Int) : Nat → Int
  | 0 => -1
  | k + 1 => if 0 ≤ seek r l k then seek r l k else if l.getD k 0 = r then (k : Int) else -1
theorem seek_in (r : Int) (l : List Int) (k : Nat) : seek r l k = -1 ∨ (0 ≤ seek r l k ∧ seek r l k < (k : Int)) := by
  induction k with
  | zero => left; rfl
  | succ k ih =>
    rw [seek]
    split
    · right; omega
    · split
      · right; omega
      · left; rfl
theorem seek_keep (r : Int) (l : List Int) (k n : Nat) (h : k ≤ n) (hs : 0 ≤ seek r l k) : seek r l n = seek r l k := by
  induction n with
  | zero => rw [show k = 0 by omega]
  | succ n ih =>
    by_cases e : k = n + 1
    · rw [e]
    · rw [seek, ih (by omega), if_pos hs]
def fwd (fr to : List Int) (r : Int) : Int := if 0 ≤ seek r fr fr.length then to.getD (seek r fr fr.length).toNat 0 else r
def fwdOkB (fr to : List Int) : Bool := ((fr.length : Int) == (to.length : Int)) && (decide ((to.length : Int) ≤ 400) && allRef to)
end Go.Proofs.Ythjfgibflbbgmaa.obj
