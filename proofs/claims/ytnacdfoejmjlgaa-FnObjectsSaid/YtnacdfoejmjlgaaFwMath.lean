/-
  What is known of an object that was forwarded: which numbers changed, and into what; that it is right again.
-/
import Derived.Test.YtnacdfoejmjlgaaFwd4
import Derived.Test.YtnacdfoejmjlgaaFwd5
namespace Go.Proofs.Ytnacdfoejmjlgaa.obj
open Go.RowKit
open kinds ints ref

theorem fwdL_at (f : Int → Int) (s : ByteArray) (vs : List Int) (n i : Nat) (h : i < n) : (fwdL f s vs n).getD i 0 = if isR s i = true then f (vs.getD i 0) else vs.getD i 0 := by
  induction n with
  | zero => omega
  | succ n ih =>
    rw [fwdL, List.getD_eq_getElem?_getD]
    by_cases e : i < n
    · rw [List.getElem?_append_left (by rw [fwdL_len]; exact e), ← List.getD_eq_getElem?_getD]
      exact ih e
    · have : i = n := by omega
      subst this
      rw [List.getElem?_append_right (by rw [fwdL_len]; exact Nat.le_refl _), fwdL_len, Nat.sub_self]
      rfl
theorem seek_is (r : Int) (l : List Int) (k : Nat) (h : 0 ≤ seek r l k) : l.getD (seek r l k).toNat 0 = r := by
  induction k with
  | zero => unfold seek at h; omega
  | succ k ih =>
    rw [seek] at h ⊢
    by_cases h1 : 0 ≤ seek r l k
    · rw [if_pos h1]; exact ih h1
    · rw [if_neg h1] at h ⊢
      by_cases h2 : l.getD k 0 = r
      · rw [if_pos h2]
        show l.getD ((k : Int)).toNat 0 = r
        rw [Int.toNat_natCast]
        exact h2
      · rw [if_neg h2] at h; omega
theorem getD_in (l : List Int) (i : Nat) (h : i < l.length) : l.getD i 0 ∈ l := by
  rw [List.getD_eq_getElem?_getD, List.getElem?_eq_getElem h]
  exact List.getElem_mem h
theorem fwd_is (fr to : List Int) (r : Int) (hl : fr.length = to.length) : fwd fr to r = r ∨ (r ∈ fr ∧ fwd fr to r ∈ to) := by
  unfold fwd
  by_cases h : 0 ≤ seek r fr fr.length
  · rw [if_pos h]
    right
    have hin := seek_in r fr fr.length
    have hlt : (seek r fr fr.length).toNat < fr.length := by omega
    have hs := seek_is r fr fr.length h
    refine ⟨?_, getD_in to _ (by omega)⟩
    have := getD_in fr _ hlt
    rw [hs] at this
    exact this
  · left; exact if_neg h
theorem fwd_nil (r : Int) : fwd [] [] r = r := by
  unfold fwd
  rw [show seek r [] ([] : List Int).length = -1 from rfl]
  exact if_neg (by omega)
theorem list_ext_getD (l m : List Int) (hl : l.length = m.length) (h : ∀ i, i < l.length → l.getD i 0 = m.getD i 0) : l = m := by
  apply List.ext_getElem hl
  intro i h1 h2
  have := h i h1
  rw [List.getD_eq_getElem?_getD, List.getD_eq_getElem?_getD, List.getElem?_eq_getElem h1, List.getElem?_eq_getElem h2] at this
  exact this
theorem fwdL_nil (s : ByteArray) (vs : List Int) : fwdL (fwd [] []) s vs vs.length = vs := by
  apply list_ext_getD
  · exact fwdL_len _ _ _ _
  · intro i hi
    rw [fwdL_len] at hi
    rw [fwdL_at _ _ _ _ _ hi]
    split
    · exact fwd_nil _
    · rfl
theorem fwdOk_nil : fwdOkB [] [] = true := by
  unfold fwdOkB allRef
  rfl
/-- Forwarded with nothing to turn is the object itself. -/
theorem fw_same {xs : List ByteArray} {t : Int} {vs : List Int} (ho : objOkB xs t vs = true) : fwT xs t vs [] [] = t ∧ fwV xs t vs [] [] = vs := by
  have hb : fwB xs t vs [] [] = true := by unfold fwB; rw [ho, fwdOk_nil]; rfl
  unfold fwT fwV
  rw [hb, if_pos rfl, if_pos rfl]
  exact ⟨rfl, fwdL_nil _ _⟩
theorem refsL_fwd (f : Int → Int) (s : ByteArray) (vs : List Int) (k : Nat) (hk : k ≤ vs.length) : refsL s (fwdL f s vs vs.length) k = (refsL s vs k).map f := by
  induction k with
  | zero => rfl
  | succ k ih =>
    rw [refsL, refsL, ih (by omega)]
    by_cases hr : isR s k = true
    · rw [if_pos hr, if_pos hr, List.map_append, fwdL_at _ _ _ _ _ (by omega), if_pos hr]
      rfl
    · rw [if_neg hr, if_neg hr]
theorem fw_right {xs : List ByteArray} {t : Int} {vs fr to : List Int} (hl : fr.length = to.length) (hb : fwB xs t vs fr to = true) : objOkB xs t (fwV xs t vs fr to) = true := by
  have hb2 := hb
  unfold fwB at hb2
  rw [Bool.and_eq_true] at hb2
  obtain ⟨ho, hf⟩ := hb2
  unfold objOkB at ho
  rw [Bool.and_eq_true, Bool.and_eq_true] at ho
  unfold fwdOkB at hf
  rw [Bool.and_eq_true, Bool.and_eq_true] at hf
  have hv : fwV xs t vs fr to = fwdL (fwd fr to) (kd xs t) vs vs.length := by unfold fwV; exact if_pos hb
  unfold objOkB
  rw [hv, Bool.and_eq_true, Bool.and_eq_true]
  refine ⟨⟨ho.1.1, ?_⟩, ?_⟩
  · have := ho.1.2
    unfold fitsB at this ⊢
    rw [fwdL_len]
    exact this
  · rw [fwdL_len, refsL_fwd _ _ _ _ (Nat.le_refl _)]
    unfold allRef
    rw [List.all_eq_true]
    intro x hx
    obtain ⟨r, hr, rfl⟩ := List.mem_map.1 hx
    have h1 := ho.2
    have h2 := hf.2.2
    unfold allRef at h1 h2
    rw [List.all_eq_true] at h1 h2
    rcases fwd_is fr to r hl with e | ⟨_, e⟩
    · rw [e]; exact h1 r hr
    · exact h2 _ e
/-- What is known of each number of a forwarded object. -/
theorem fw_each {xs : List ByteArray} {t : Int} {vs fr to : List Int} (hl : fr.length = to.length) (hb : fwB xs t vs fr to = true) : (fwV xs t vs fr to).length = vs.length ∧ fwT xs t vs fr to = t ∧
    ∀ i, i < vs.length → (fwV xs t vs fr to).getD i 0 = vs.getD i 0 ∨ (isR (kd xs t) i = true ∧ vs.getD i 0 ∈ fr ∧ (fwV xs t vs fr to).getD i 0 ∈ to) := by
  have hv : fwV xs t vs fr to = fwdL (fwd fr to) (kd xs t) vs vs.length := by unfold fwV; exact if_pos hb
  have ht : fwT xs t vs fr to = t := by unfold fwT; exact if_pos hb
  rw [hv, ht]
  refine ⟨fwdL_len _ _ _ _, rfl, fun i hi => ?_⟩
  rw [fwdL_at _ _ _ _ _ hi]
  by_cases hr : isR (kd xs t) i = true
  · rw [if_pos hr]
    rcases fwd_is fr to (vs.getD i 0) hl with e | ⟨e1, e2⟩
    · exact .inl e
    · exact .inr ⟨hr, e1, e2⟩
  · rw [if_neg hr]; exact .inl rfl
theorem fw_empty {xs : List ByteArray} {t : Int} {vs fr to : List Int} (h : 0 < (fwV xs t vs fr to).length) : fwB xs t vs fr to = true := by
  cases hb : fwB xs t vs fr to with
  | true => rfl
  | false =>
    unfold fwV at h
    rw [hb, if_neg (by decide)] at h
    simp at h
theorem ok_known {xs : List ByteArray} {t : Int} {vs : List Int} (h : objOkB xs t vs = true) : ∃ p : Nat, ∃ hp : p < xs.length, t = (p : Int) ∧ vs.length = xs[p].size ∧ kd xs t = xs[p] := by
  unfold objOkB at h
  rw [Bool.and_eq_true, Bool.and_eq_true] at h
  have h1 := h.1.2
  unfold fitsB placeB at h1
  simp at h1
  obtain ⟨p, rfl⟩ := Int.eq_ofNat_of_zero_le h1.1.1
  have hp : p < xs.length := by have := h1.1.2; omega
  have hk := kd_at p hp
  refine ⟨p, hp, rfl, ?_, hk⟩
  have h2 := h1.2
  have hk2 : (kd xs (Int.ofNat p)) = xs[p] := hk
  first
    | (rw [hk2] at h2; omega)
    | (rw [hk] at h2; omega)
    | omega
end Go.Proofs.Ytnacdfoejmjlgaa.obj
