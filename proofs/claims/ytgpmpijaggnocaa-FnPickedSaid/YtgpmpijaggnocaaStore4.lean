/-
  What the specification's l2Store returns: the lines with one of them changed, or with one more, in new memory; nothing that was there is written.
-/
import Derived.Test.YtgpmpijaggnocaaStore1
import Derived.Test.YtgpmpijaggnocaaEvict3
import Derived.Deep.RegionLaw
namespace Go.Proofs.Ytgpmpijaggnocaa.dev
open Go.RowKit Go.Maps
open bb later

/-- Whether the line was met or passed among the first k, and what is out by then. -/
def stDone (ls : List Ln) (p : Nat) (k : Nat) : Bool := (ls.take k).any fun l => decide ((p : Int) ≤ l.place)
def stOut (ls : List Ln) (p : Nat) (nw : Ln) (k : Nat) : List Ln := (ls.take k).filter (fun l => decide (l.place < (p : Int))) ++ (if stDone ls p k = true then [nw] else []) ++ (ls.take k).filter (fun l => decide ((p : Int) < l.place))
theorem stDone_succ (ls : List Ln) (p k : Nat) (hk : k < ls.length) : stDone ls p (k + 1) = (stDone ls p k || decide ((p : Int) ≤ ls[k].place)) := by
  unfold stDone
  rw [List.take_succ_eq_append_getElem hk, List.any_append]
  simp
theorem stDone_no {ls : List Ln} {p k : Nat} (h : stDone ls p k = false) : ∀ l ∈ ls.take k, l.place < (p : Int) := by
  intro l hl
  unfold stDone at h
  have := List.any_eq_false.1 h l hl
  simp at this
  exact this
theorem stDone_yes {ls : List Ln} {p k : Nat} (h : stDone ls p k = true) (hp : ls.Pairwise (fun a b => a.place < b.place)) (hk : k < ls.length) : (p : Int) < ls[k].place := by
  unfold stDone at h
  obtain ⟨l, hl, hle⟩ := List.any_eq_true.1 h
  obtain ⟨i, hi, rfl⟩ := List.getElem_of_mem hl
  have hik : i < k := by simp at hi; omega
  rw [List.getElem_take] at hle
  have h1 := (List.pairwise_iff_getElem.1 hp) i k (by omega) hk hik
  simp at hle
  omega
theorem filter_none {r : List Ln} {p : Nat} (h : ∀ l ∈ r, l.place < (p : Int)) : r.filter (fun l => decide ((p : Int) < l.place)) = [] := by
  rw [List.filter_eq_nil_iff]
  intro l hl
  have := h l hl
  simp
  omega
theorem stOut_less {ls : List Ln} {p k : Nat} (nw : Ln) (hk : k < ls.length) (hd : stDone ls p k = false) (h : ls[k].place < (p : Int)) : stDone ls p (k + 1) = false ∧ stOut ls p nw (k + 1) = stOut ls p nw k ++ [ls[k]] := by
  have h1 : stDone ls p (k + 1) = false := by rw [stDone_succ ls p k hk, hd, Bool.false_or]; simp; omega
  refine ⟨h1, ?_⟩
  unfold stOut
  rw [h1, hd, List.take_succ_eq_append_getElem hk, List.filter_append, List.filter_append, filter_none (stDone_no hd)]
  have e1 : [ls[k]].filter (fun l => decide (l.place < (p : Int))) = [ls[k]] := by simp [h]
  have e2 : [ls[k]].filter (fun l => decide ((p : Int) < l.place)) = [] := by simp; omega
  rw [e1, e2]
  simp
theorem stOut_same {ls : List Ln} {p k : Nat} (nw : Ln) (hk : k < ls.length) (hd : stDone ls p k = false) (h : ls[k].place = (p : Int)) : stDone ls p (k + 1) = true ∧ stOut ls p nw (k + 1) = stOut ls p nw k ++ [nw] := by
  have h1 : stDone ls p (k + 1) = true := by rw [stDone_succ ls p k hk, hd, Bool.false_or]; simp; omega
  refine ⟨h1, ?_⟩
  unfold stOut
  rw [h1, hd, List.take_succ_eq_append_getElem hk, List.filter_append, List.filter_append, filter_none (stDone_no hd)]
  have e1 : [ls[k]].filter (fun l => decide (l.place < (p : Int))) = [] := by simp; omega
  have e2 : [ls[k]].filter (fun l => decide ((p : Int) < l.place)) = [] := by simp; omega
  rw [e1, e2]
  simp
theorem stOut_more {ls : List Ln} {p k : Nat} (nw : Ln) (hk : k < ls.length) (hd : stDone ls p k = false) (h : (p : Int) < ls[k].place) : stDone ls p (k + 1) = true ∧ stOut ls p nw (k + 1) = stOut ls p nw k ++ [nw] ++ [ls[k]] := by
  have h1 : stDone ls p (k + 1) = true := by rw [stDone_succ ls p k hk, hd, Bool.false_or]; simp; omega
  refine ⟨h1, ?_⟩
  unfold stOut
  rw [h1, hd, List.take_succ_eq_append_getElem hk, List.filter_append, List.filter_append, filter_none (stDone_no hd)]
  have e1 : [ls[k]].filter (fun l => decide (l.place < (p : Int))) = [] := by simp; omega
  have e2 : [ls[k]].filter (fun l => decide ((p : Int) < l.place)) = [ls[k]] := by simp [h]
  rw [e1, e2]
  simp
theorem stOut_after {ls : List Ln} {p k : Nat} (nw : Ln) (hk : k < ls.length) (hd : stDone ls p k = true) (h : (p : Int) < ls[k].place) : stDone ls p (k + 1) = true ∧ stOut ls p nw (k + 1) = stOut ls p nw k ++ [ls[k]] := by
  have h1 : stDone ls p (k + 1) = true := by rw [stDone_succ ls p k hk, hd]; rfl
  refine ⟨h1, ?_⟩
  unfold stOut
  rw [h1, hd, List.take_succ_eq_append_getElem hk, List.filter_append, List.filter_append]
  have e1 : [ls[k]].filter (fun l => decide (l.place < (p : Int))) = [] := by simp; omega
  have e2 : [ls[k]].filter (fun l => decide ((p : Int) < l.place)) = [ls[k]] := by simp [h]
  rw [e1, e2]
  simp
theorem stOut_end (safe : ByteArray) (ls : List Ln) (p o : Nat) (d : ByteArray) : (stDone ls p ls.length = true → stOut ls p (storeNew safe ls p o d) ls.length = storeL safe ls p o d) ∧ (stDone ls p ls.length = false → stOut ls p (storeNew safe ls p o d) ls.length ++ [storeNew safe ls p o d] = storeL safe ls p o d) := by
  constructor
  · intro h
    unfold stOut storeL
    rw [h, List.take_length]
    simp
  · intro h
    have hn := stDone_no h
    rw [List.take_length] at hn
    unfold stOut storeL
    rw [h, List.take_length, filter_none hn]
    simp
theorem stOut_le (ls : List Ln) (p : Nat) (nw : Ln) (k : Nat) : (stOut ls p nw k).length ≤ ls.length + 1 := by
  unfold stOut
  have h : ∀ r : List Ln, (r.filter (fun l => decide (l.place < (p : Int)))).length + (r.filter (fun l => decide ((p : Int) < l.place))).length ≤ r.length := by
    intro r
    induction r with
    | nil => simp
    | cons l t ih =>
      by_cases h1 : l.place < (p : Int)
      · rw [List.filter_cons_of_pos (by simpa using h1), List.filter_cons_of_neg (by simp; omega)]
        simp only [List.length_cons]; omega
      · rw [List.filter_cons_of_neg (by simpa using h1)]
        by_cases h2 : (p : Int) < l.place
        · rw [List.filter_cons_of_pos (by simpa using h2)]
          simp only [List.length_cons]; omega
        · rw [List.filter_cons_of_neg (by simpa using h2)]
          simp only [List.length_cons]; omega
  have h1 := h (ls.take k)
  have h2 : (ls.take k).length ≤ ls.length := by simp; omega
  have h3 : (if stDone ls p k = true then [nw] else ([] : List Ln)).length ≤ 1 := by split <;> simp
  simp only [List.length_append]
  omega
/-- Where it is met the line made is of what was there; where it is passed, of what is safe. -/
theorem new_same {ls : List Ln} (safe : ByteArray) {p k : Nat} (o : Nat) (d : ByteArray) (hp : ls.Pairwise (fun a b => a.place < b.place)) (hk : k < ls.length) (h : ls[k].place = (p : Int)) : storeNew safe ls p o d = ⟨ls[k].place, withAt ls[k].data o d, ls[k].sent⟩ := by
  have h1 : findAt ls (p : Int) = some ls[k] := by
    unfold findAt
    rw [List.find?_eq_some_iff_getElem]
    refine ⟨by simpa using h, k, hk, rfl, fun j hj => ?_⟩
    have := (List.pairwise_iff_getElem.1 hp) j k (by omega) hk hj
    simp
    omega
  unfold storeNew
  rw [h1]
theorem new_none {ls : List Ln} (safe : ByteArray) {p : Nat} (o : Nat) (d : ByteArray) (h : ∀ l ∈ ls, l.place ≠ (p : Int)) : storeNew safe ls p o d = ⟨(p : Int), withAt (safeAt safe p) o d, ⟨#[]⟩⟩ := by
  have h1 : findAt ls (p : Int) = none := by
    unfold findAt
    rw [List.find?_eq_none]
    intro l hl
    simpa using h l hl
  unfold storeNew
  rw [h1]
theorem passed {ls : List Ln} {p k : Nat} (hp : ls.Pairwise (fun a b => a.place < b.place)) (hk : k < ls.length) (hd : stDone ls p k = false) (h : (p : Int) < ls[k].place) : ∀ l ∈ ls, l.place ≠ (p : Int) := by
  intro l hl
  obtain ⟨i, hi, rfl⟩ := List.getElem_of_mem hl
  by_cases hik : i < k
  · have := stDone_no hd ls[i] (by rw [List.mem_take_iff_getElem]; exact ⟨i, by omega, rfl⟩)
    omega
  · by_cases e : i = k
    · subst e; omega
    · have := (List.pairwise_iff_getElem.1 hp) k i hk hi (by omega)
      omega
end Go.Proofs.Ytgpmpijaggnocaa.dev
