/-
  Marks told exactly: the text of a mark, lines written over with marks, and the marks found again.
-/
import Derived.Test.YtgpmpijaggnocaaMark
import Derived.Deep.RegionWith
namespace Go.Proofs.Ytgpmpijaggnocaa.dev
open Go.RowKit

def digs : Nat → Nat → ByteArray → ByteArray
  | 0, _, s => s
  | f + 1, j, s => if j = 0 then s else digs f (j / 10) (strOfNums [48 + (j : Int) % 10] ++ s)
theorem digs_zero (f : Nat) (s : ByteArray) : digs f 0 s = s := by cases f <;> simp [digs]
theorem digs_fuel (f : Nat) : ∀ (g j : Nat) (s : ByteArray), j ≤ f → j ≤ g → digs f j s = digs g j s := by
  induction f with
  | zero =>
    intro g j s h1 h2
    obtain rfl : j = 0 := by omega
    rw [digs_zero, digs_zero]
  | succ f ih =>
    intro g j s h1 h2
    by_cases h0 : j = 0
    · subst h0; rw [digs_zero, digs_zero]
    · obtain ⟨g, rfl⟩ : ∃ g', g = g' + 1 := ⟨g - 1, by omega⟩
      simp only [digs, if_neg h0]
      exact ih g (j / 10) _ (by omega) (by omega)
/-- The text of a mark. -/
def markStr (k : Nat) : ByteArray := ⟨#[109]⟩ ++ digs k k ⟨#[]⟩
/-- The lines that marks make. -/
def markLn (k i : Nat) : Ln := ⟨((k + i * 3 : Nat) : Int), markStr (k + i * 3 + 1), markStr (k + i * 3 + 2)⟩
def markLs (k n : Nat) : List Ln := (List.range n).map (markLn k)
theorem markLs_len (k n : Nat) : (markLs k n).length = n := by simp [markLs]
theorem markLs_at (k n i : Nat) (h : i < (markLs k n).length) : (markLs k n)[i] = markLn k i := by simp [markLs]
end Go.Proofs.Ytgpmpijaggnocaa.dev
