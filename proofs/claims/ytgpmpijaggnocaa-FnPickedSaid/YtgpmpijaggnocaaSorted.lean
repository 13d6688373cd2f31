/-
  The lines of a right device, by place and in order again: they are what they were.
-/
import Derived.Test.YtgpmpijaggnocaaMap3
namespace Go.Proofs.Ytgpmpijaggnocaa.dev
open Go.RowKit

theorem ok_lt {safe : ByteArray} {ls : List Ln} (h : DevOk safe ls) : ∀ (j i : Nat) (hj : j < ls.length) (hi : i < j), (ls[i]'(by omega)).place < ls[j].place := by
  intro j
  induction j with
  | zero => intro i hj hi; omega
  | succ j ih =>
    intro i hj hi
    have h1 := (h.2.2.2 (j + 1) hj).1
    rw [prevOf_succ ls j (by omega)] at h1
    by_cases e : i = j
    · subst e; exact h1
    · have := ih i (by omega) (by omega)
      omega
theorem ok_pairwise {safe : ByteArray} {ls : List Ln} (h : DevOk safe ls) : ls.Pairwise (fun a b => a.place < b.place) := by
  rw [List.pairwise_iff_getElem]
  intro i j hi hj hij
  exact ok_lt h j i hj hij
def findAt (ls : List Ln) (p : Int) : Option Ln := ls.find? fun l => l.place == p
theorem byPlace_fold (ls : List Ln) (hp : ls.Pairwise (fun a b => a.place < b.place)) : ∀ (f : Int → Option Ln) (p : Int), (ls.foldl (fun f l => upd f l.place (some l)) f) p = (match findAt ls p with | some l => some l | none => f p) := by
  induction ls with
  | nil => intro f p; rfl
  | cons l t ih =>
    intro f p
    rw [List.pairwise_cons] at hp
    rw [List.foldl_cons, ih hp.2]
    unfold findAt
    rw [List.find?_cons]
    by_cases e : l.place = p
    · have hn : t.find? (fun l => l.place == p) = none := by
        rw [List.find?_eq_none]
        intro x hx
        have := hp.1 x hx
        simp
        omega
      rw [hn]
      simp [upd, e]
    · have e1 : (l.place == p) = false := by simpa using e
      rw [e1]
      simp only [upd, if_neg (Ne.symm e)]
theorem byPlace_find {ls : List Ln} (hp : ls.Pairwise (fun a b => a.place < b.place)) (p : Int) : byPlace ls p = findAt ls p := by
  unfold byPlace
  rw [byPlace_fold ls hp]
  cases findAt ls p <;> rfl
theorem filter_step (ls : List Ln) (hp : ls.Pairwise (fun a b => a.place < b.place)) (n : Int) :
    ls.filter (fun l => decide (l.place < n + 1)) = ls.filter (fun l => decide (l.place < n)) ++ (match findAt ls n with | some l => [l] | none => []) := by
  induction ls with
  | nil => rfl
  | cons l t ih =>
    rw [List.pairwise_cons] at hp
    unfold findAt
    rw [List.find?_cons]
    have far : n ≤ l.place → t.filter (fun l => decide (l.place < n + 1)) = [] ∧ t.filter (fun l => decide (l.place < n)) = [] ∧ t.find? (fun l => l.place == n) = none := fun hle => by
      refine ⟨?_, ?_, ?_⟩
      · rw [List.filter_eq_nil_iff]; intro x hx; have := hp.1 x hx; simp; omega
      · rw [List.filter_eq_nil_iff]; intro x hx; have := hp.1 x hx; simp; omega
      · rw [List.find?_eq_none]; intro x hx; have := hp.1 x hx; simp; omega
    by_cases h1 : l.place < n
    · have e1 : (l.place == n) = false := by simp; omega
      rw [e1, List.filter_cons_of_pos (by simp; omega), List.filter_cons_of_pos (by simpa using h1), ih hp.2]
      rfl
    · obtain ⟨q1, q2, q3⟩ := far (by omega)
      by_cases h2 : l.place = n
      · have e1 : (l.place == n) = true := by simpa using h2
        rw [e1, List.filter_cons_of_pos (by simp; omega), List.filter_cons_of_neg (by simp; omega), q1, q2]
        rfl
      · have e1 : (l.place == n) = false := by simpa using h2
        rw [e1, List.filter_cons_of_neg (by simp; omega), List.filter_cons_of_neg (by simp; omega), q1, q2, q3]
        rfl
theorem inOrder_sorted (ls : List Ln) (hp : ls.Pairwise (fun a b => a.place < b.place)) (h0 : ∀ l ∈ ls, 0 ≤ l.place) (f : Int → Option Ln) (hf : ∀ p, f p = findAt ls p) : ∀ n : Nat, inOrder f n = ls.filter (fun l => decide (l.place < (n : Int))) := by
  intro n
  induction n with
  | zero =>
    rw [eq_comm, List.filter_eq_nil_iff.2 (fun x hx => by have := h0 x hx; simp; omega)]
    rfl
  | succ n ih =>
    rw [inOrder_succ, ih, hf, show ((n + 1 : Nat) : Int) = (n : Int) + 1 by omega, filter_step ls hp]
    cases findAt ls (n : Int) <;> rfl
/-- What is sorted by place is in order what it was. -/
theorem inOrder_all (ls : List Ln) (hp : ls.Pairwise (fun a b => a.place < b.place)) (h0 : ∀ l ∈ ls, 0 ≤ l.place) (f : Int → Option Ln) (hf : ∀ p, f p = findAt ls p) (n : Nat) (hn : ∀ l ∈ ls, l.place < (n : Int)) : inOrder f n = ls := by
  rw [inOrder_sorted ls hp h0 f hf, List.filter_eq_self.2 (fun x hx => by simpa using hn x hx)]
end Go.Proofs.Ytgpmpijaggnocaa.dev
