/-
  LinesOf, by the program and by the specification; nothing that was there is written.
-/
import Derived.Test.YtomlogkbndmaaaaBits5
import Derived.Test.YtomlogkbndmaaaaInts
namespace Go.Proofs.Ytomlogkbndmaaaa.lb
open Go.RowKit
open ints

def linesL (l : List UInt8) : Nat → List Int
  | 0 => []
  | k + 1 => linesL l k ++ (if bitAt l k = true then [(k : Int)] else [])
theorem linesL_le (l : List UInt8) (k : Nat) : (linesL l k).length ≤ k := by
  induction k with
  | zero => exact Nat.le_refl _
  | succ k ih => rw [linesL, List.length_append]; split <;> simp <;> omega
def linesOf (m : ByteArray) : List Int := if mapOk m = true then linesL m.data.toList 128 else []
end Go.Proofs.Ytomlogkbndmaaaa.lb
