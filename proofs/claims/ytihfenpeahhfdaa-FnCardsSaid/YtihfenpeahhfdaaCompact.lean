/-
  slices.Compact at whole numbers, over a row that the call owns: runs of equal ones become one.
-/
import Derived.Test.YtihfenpeahhfdaaPlace
import Derived.Lib.SliceRun
namespace Go.Proofs.Ytihfenpeahhfdaa.ints
open Go.RowKit inr

/-- Runs of equal numbers among the first k become one. -/
def compK (ys : List Int) : Nat → List Int
  | 0 => []
  | k + 1 => if 0 < k ∧ ys.getD k 0 = ys.getD (k - 1) 0 then compK ys k else compK ys k ++ [ys.getD k 0]
theorem compK_len (ys : List Int) (k : Nat) : (compK ys k).length ≤ k := by
  induction k with
  | zero => simp [compK]
  | succ k ih =>
    rw [compK]
    split
    · omega
    · rw [List.length_append]; simp; omega
theorem compK_all (ys : List Int) (k : Nat) (hk : k ≤ ys.length) (h : ∀ j, 0 < j → j < k → ys.getD j 0 ≠ ys.getD (j - 1) 0) : compK ys k = ys.take k := by
  induction k with
  | zero => simp [compK]
  | succ k ih =>
    rw [compK, ih (by omega) (fun j h1 h2 => h j h1 (by omega)), List.take_succ_eq_append_getElem (by omega), getD_intI ys k (by omega)]
    by_cases h0 : 0 < k
    · rw [if_neg (fun q => h k h0 (by omega) q.2)]
    · rw [if_neg (fun q => h0 q.1)]
/-- The second loop: what is kept lies first, and what is yet to be looked at as it was. -/
structure Comp (ys A : List Int) (m i : Nat) : Prop where
  len : A.length = ys.length
  kept : A.take i = compK ys m
  size : i = (compK ys m).length
  rest : ∀ j, m - 1 ≤ j → j < ys.length → A.getD j 0 = ys.getD j 0
  lt : i < m
theorem Comp.skip {ys A : List Int} {m i : Nat} (h : Comp ys A m i) (he : ys.getD m 0 = ys.getD (m - 1) 0) : Comp ys A (m + 1) i := by
  have hc : compK ys (m + 1) = compK ys m := by rw [compK, if_pos ⟨by have := h.lt; omega, he⟩]
  exact ⟨h.len, by rw [hc]; exact h.kept, by rw [hc]; exact h.size, fun j h1 h2 => h.rest j (by omega) h2, by have := h.lt; omega⟩
theorem Comp.keep {ys A : List Int} {m i : Nat} (h : Comp ys A m i) (hm : m < ys.length) (he : ys.getD m 0 ≠ ys.getD (m - 1) 0) : Comp ys (A.set i (ys.getD m 0)) (m + 1) (i + 1) := by
  have hc : compK ys (m + 1) = compK ys m ++ [ys.getD m 0] := by rw [compK, if_neg (fun q => he q.2)]
  have hi : i < A.length := by have := h.lt; have := h.len; omega
  refine ⟨by rw [List.length_set]; exact h.len, ?_, by rw [hc, List.length_append, ← h.size]; rfl, fun j h1 h2 => ?_, by have := h.lt; omega⟩
  · rw [hc, ← h.kept, List.take_succ_eq_append_getElem (by rw [List.length_set]; exact hi)]
    congr 1
    · rw [List.take_set_of_le (Nat.le_refl _)]
    · simp
  · have hne : i ≠ j := by have := h.lt; omega
    have := h.rest j (by omega) h2
    rw [List.getD_eq_getElem?_getD, List.getElem?_set_ne hne, ← List.getD_eq_getElem?_getD]
    exact this
theorem Comp.start {ys : List Int} {k : Nat} (h0 : 0 < k) (hk : k < ys.length) (he : ys.getD k 0 = ys.getD (k - 1) 0) (h : ∀ j, 0 < j → j < k → ys.getD j 0 ≠ ys.getD (j - 1) 0) : Comp ys ys (k + 1) k := by
  have hc : compK ys (k + 1) = ys.take k := by rw [compK, if_pos ⟨h0, he⟩, compK_all ys k (by omega) h]
  exact ⟨rfl, hc.symm, by rw [hc, List.length_take]; omega, fun j _ _ => rfl, by omega⟩
end Go.Proofs.Ytihfenpeahhfdaa.ints
