/-
  rises: whether whole numbers rise, none of them below 0 or beyond a limit; nothing that was there is written.
-/
import Derived.Test.YthjfgibflbbgmaaInts
namespace Go.Proofs.Ythjfgibflbbgmaa.ints
open Go.RowKit

/-- The number ahead of the k-th one. -/
def prevI (xs : List Int) : Nat → Int
  | 0 => -1
  | k + 1 => xs.getD k 0
def riseN (xs : List Int) (h : Int) : Nat → Bool
  | 0 => true
  | k + 1 => riseN xs h k && (decide (prevI xs k < xs.getD k 0) && decide (xs.getD k 0 ≤ h))
theorem riseN_le (xs : List Int) (h : Int) (k n : Nat) (hk : k ≤ n) (hf : riseN xs h k = false) : riseN xs h n = false := by
  induction n with
  | zero => rw [show k = 0 by omega] at hf; exact hf
  | succ n ih =>
    by_cases e : k = n + 1
    · rw [← e]; exact hf
    · rw [riseN, ih (by omega)]; rfl
theorem getD_intI (xs : List Int) (k : Nat) (h : k < xs.length) : xs[k] = xs.getD k 0 := by
  rw [List.getD_eq_getElem?_getD, List.getElem?_eq_getElem h]; rfl
theorem prevI_ge (xs : List Int) (h : Int) (k : Nat) (hk : riseN xs h k = true) : -1 ≤ prevI xs k ∧ (0 < k → 0 ≤ prevI xs k ∧ prevI xs k ≤ h) := by
  induction k with
  | zero => simp [prevI]
  | succ k ih =>
    rw [riseN, Bool.and_eq_true, Bool.and_eq_true] at hk
    obtain ⟨h1, h2, h3⟩ := hk
    have := ih h1
    have h2' := of_decide_eq_true h2
    have h3' := of_decide_eq_true h3
    rw [prevI]
    exact ⟨by omega, fun _ => by omega⟩
theorem riseN_in (xs : List Int) (h : Int) (hok : riseN xs h xs.length = true) (k : Nat) (hk : k < xs.length) : 0 ≤ xs.getD k 0 ∧ xs.getD k 0 ≤ h := by
  have h1 : riseN xs h (k + 1) = true := by
    cases e : riseN xs h (k + 1) with
    | true => rfl
    | false => rw [riseN_le xs h (k + 1) xs.length (by omega) e] at hok; cases hok
  exact (prevI_ge xs h (k + 1) h1).2 (by omega)
end Go.Proofs.Ythjfgibflbbgmaa.ints
