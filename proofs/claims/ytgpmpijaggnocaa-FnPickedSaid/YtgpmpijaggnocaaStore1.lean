/-
  What a store leaves: the lines with one of them changed, or with one more; by the program.
-/
import Derived.Test.YtgpmpijaggnocaaEvict1
import Derived.Test.YtgpmpijaggnocaaRisk
namespace Go.Proofs.Ytgpmpijaggnocaa.dev
open Go.RowKit Go.Maps
open bb later

/-- The line that a store makes: of what was there, or of what is safe. -/
def storeNew (safe : ByteArray) (ls : List Ln) (p o : Nat) (d : ByteArray) : Ln := match findAt ls (p : Int) with
  | some l => ⟨l.place, withAt l.data o d, l.sent⟩
  | none => ⟨(p : Int), withAt (safeAt safe p) o d, ⟨#[]⟩⟩
def storeL (safe : ByteArray) (ls : List Ln) (p o : Nat) (d : ByteArray) : List Ln := ls.filter (fun l => decide (l.place < (p : Int))) ++ [storeNew safe ls p o d] ++ ls.filter (fun l => decide ((p : Int) < l.place))
theorem storeNew_place (safe : ByteArray) (ls : List Ln) (p o : Nat) (d : ByteArray) : (storeNew safe ls p o d).place = (p : Int) := by
  unfold storeNew
  split
  · rename_i l h
    have := List.find?_some h
    simpa using this
  · rfl
theorem storeL_mem {safe : ByteArray} {ls : List Ln} {p o : Nat} {d : ByteArray} {l : Ln} (h : l ∈ storeL safe ls p o d) : l ∈ ls ∨ l.place = (p : Int) := by
  unfold storeL at h
  simp only [List.mem_append, List.mem_filter, List.mem_singleton] at h
  rcases h with (h | h) | h
  · exact .inl h.1
  · exact .inr (by rw [h]; exact storeNew_place _ _ _ _ _)
  · exact .inl h.1
theorem storeL_sorted (safe : ByteArray) (ls : List Ln) (p o : Nat) (d : ByteArray) (hp : ls.Pairwise (fun a b => a.place < b.place)) : (storeL safe ls p o d).Pairwise (fun a b => a.place < b.place) := by
  unfold storeL
  have hn := storeNew_place safe ls p o d
  rw [List.pairwise_append, List.pairwise_append]
  refine ⟨⟨hp.filter _, List.pairwise_singleton _ _, fun a ha b hb => ?_⟩, hp.filter _, fun a ha b hb => ?_⟩
  · have h1 := (List.mem_filter.1 ha).2
    simp at h1 hb
    subst hb
    rw [hn]; exact h1
  · have h2 := (List.mem_filter.1 hb).2
    simp at h2
    rw [List.mem_append] at ha
    rcases ha with ha | ha
    · have h1 := (List.mem_filter.1 ha).2
      simp at h1
      omega
    · simp at ha
      subst ha
      rw [hn]; exact h2
theorem storeL_le (safe : ByteArray) (ls : List Ln) (p o : Nat) (d : ByteArray) : (storeL safe ls p o d).length ≤ ls.length + 1 := by
  unfold storeL
  have h : ∀ r : List Ln, (r.filter (fun l => decide (l.place < (p : Int)))).length + (r.filter (fun l => decide ((p : Int) < l.place))).length ≤ r.length := by
    intro r
    induction r with
    | nil => simp
    | cons l t ih =>
      by_cases h1 : l.place < (p : Int)
      · rw [List.filter_cons_of_pos (by simpa using h1), List.filter_cons_of_neg (by simp; omega)]
        simp only [List.length_cons]; omega
      · rw [List.filter_cons_of_neg (by simpa using h1)]
        by_cases h2 : (p : Int) < l.place
        · rw [List.filter_cons_of_pos (by simpa using h2)]
          simp only [List.length_cons]; omega
        · rw [List.filter_cons_of_neg (by simpa using h2)]
          simp only [List.length_cons]; omega
  have := h ls
  simp only [List.length_append, List.length_singleton]
  omega
theorem find_filter (ls : List Ln) (P : Ln → Bool) (q : Int) (h : ∀ l ∈ ls, l.place = q → P l = true) : findAt (ls.filter P) q = findAt ls q := by
  induction ls with
  | nil => rfl
  | cons l t ih =>
    have ih := ih (fun x hx => h x (List.mem_cons_of_mem _ hx))
    by_cases e : l.place = q
    · have h1 := h l (List.mem_cons_self) e
      rw [List.filter_cons_of_pos h1]
      unfold findAt
      rw [List.find?_cons, List.find?_cons]
      have e1 : (l.place == q) = true := by simpa using e
      rw [e1]
    · have e1 : (l.place == q) = false := by simpa using e
      have h2 : findAt (l :: t) q = findAt t q := by unfold findAt; rw [List.find?_cons, e1]
      rw [h2, ← ih]
      cases hP : P l with
      | true =>
        rw [List.filter_cons_of_pos hP]
        unfold findAt
        rw [List.find?_cons, e1]
      | false =>
        rw [List.filter_cons_of_neg (by simp [hP])]
theorem find_filter_no (ls : List Ln) (P : Ln → Bool) (q : Int) (h : ∀ l ∈ ls, l.place = q → P l = false) : findAt (ls.filter P) q = none := by
  unfold findAt
  rw [List.find?_eq_none]
  intro x hx
  obtain ⟨h1, h2⟩ := List.mem_filter.1 hx
  intro e
  have := h x h1 (by simpa using e)
  rw [this] at h2
  cases h2
theorem find_app (a b : List Ln) (q : Int) : findAt (a ++ b) q = (findAt a q).or (findAt b q) := by unfold findAt; rw [List.find?_append]
theorem storeL_find (safe : ByteArray) (ls : List Ln) (p o : Nat) (d : ByteArray) (q : Int) : findAt (storeL safe ls p o d) q = if q = (p : Int) then some (storeNew safe ls p o d) else findAt ls q := by
  unfold storeL
  have hn := storeNew_place safe ls p o d
  rw [find_app, find_app]
  by_cases e : q = (p : Int)
  · subst e
    rw [if_pos rfl, find_filter_no ls _ _ (fun l _ h => by simp; omega)]
    have : findAt [storeNew safe ls p o d] (p : Int) = some (storeNew safe ls p o d) := by unfold findAt; rw [List.find?_cons]; simp [hn]
    rw [this]
    rfl
  · rw [if_neg e]
    have h1 : findAt [storeNew safe ls p o d] q = none := by
      unfold findAt
      rw [List.find?_cons]
      have : ((storeNew safe ls p o d).place == q) = false := by simp; omega
      rw [this]
      rfl
    rw [h1]
    by_cases hl : q < (p : Int)
    · rw [find_filter ls _ q (fun l _ h => by simp; omega), find_filter_no ls (fun l => decide ((p : Int) < l.place)) q (fun l _ h => by simp; omega)]
      simp
    · rw [find_filter_no ls _ q (fun l _ h => by simp; omega), find_filter ls (fun l => decide ((p : Int) < l.place)) q (fun l _ h => by simp; omega)]
      simp
theorem store_order {safe : ByteArray} {ls : List Ln} (h : DevOk safe ls) (p o : Nat) (d : ByteArray) (hp : (p : Int) < ((safe.size / 64 : Nat) : Int)) (f : Int → Option Ln) (hf : ∀ q, f q = if q = (p : Int) then some (storeNew safe ls p o d) else byPlace ls q) : inOrder f (safe.size / 64) = storeL safe ls p o d := by
  have hs := ok_pairwise h
  refine inOrder_all _ (storeL_sorted safe ls p o d hs) (fun l hl => ?_) f (fun q => ?_) _ (fun l hl => ?_)
  · rcases storeL_mem hl with h1 | h1
    · exact (place_ok h l h1).1
    · omega
  · rw [hf q, storeL_find, byPlace_find hs]
  · rcases storeL_mem hl with h1 | h1
    · exact (place_ok h l h1).2
    · omega
end Go.Proofs.Ytgpmpijaggnocaa.dev
