/-
  Patched: the words of a set, each with the number to which it is turned, laid over an image; the maths alone.
-/
import Derived.Test.YtjdlphebnhkghaaPtCopy
import Derived.Test.YtjdlphebnhkghaaPtFwd
import Derived.Test.YtjdlphebnhkghaaPtIter
import Derived.Test.YtjdlphebnhkghaaWb
namespace Go.Proofs.Ytjdlphebnhkghaa.pt
open Go.RowKit
open wmath num ints ref yw wb

/-- The eight bytes to which a reference is turned. -/
def turned (fr to : List Int) (v : Int) : ByteArray := wordStr (IntKind.u64.wrap (fwd fr to v))
theorem turned_len (fr to : List Int) (v : Int) : (turned fr to v).data.toList.length = 8 := rfl
/-- The bytes with the first k words turned. -/
def ptL (s : ByteArray) (fr to xs : List Int) : Nat → List UInt8
  | 0 => s.data.toList
  | k + 1 => putAt (ptL s fr to xs k) (8 * (xs.getD k 0).toNat) (turned fr to (wOf s xs k)).data.toList
theorem ptL_len (s : ByteArray) (fr to xs : List Int) (k : Nat) (h : ∀ j, j < k → 8 * (xs.getD j 0).toNat + 8 ≤ s.size) : (ptL s fr to xs k).length = s.size := by
  induction k with
  | zero => simp [ptL]
  | succ k ih =>
    have h1 := ih (fun j hj => h j (by omega))
    rw [ptL, putAt_len _ _ _ (by rw [h1, turned_len]; exact h k (by omega)), h1]
def ptOk (s : ByteArray) (fr to xs : List Int) : Bool := ywOk s xs && fwdOkB fr to
def ptS (s : ByteArray) (fr to xs : List Int) : ByteArray := if ptOk s fr to xs = true then ⟨(ptL s fr to xs xs.length).toArray⟩ else ⟨#[]⟩
theorem yw_bounds {s : ByteArray} {xs : List Int} (h : ywOk s xs = true) : ∀ k, k < xs.length → 0 ≤ xs.getD k 0 ∧ 8 * xs.getD k 0 + 8 ≤ (s.size : Int) := by
  unfold ywOk at h
  rw [Bool.and_eq_true, Bool.and_eq_true] at h
  intro k hk
  refine ⟨(riseN_in xs 1023 h.1 k hk).1, ?_⟩
  have hall : ∀ n, n ≤ xs.length → ywB s xs n = true → ∀ j, j < n → 8 * xs.getD j 0 + 8 ≤ (s.size : Int) := by
    intro n
    induction n with
    | zero => intro _ _ j hj; omega
    | succ n ih =>
      intro hn hb j hj
      rw [ywB, Bool.and_eq_true, Bool.and_eq_true] at hb
      by_cases e : j = n
      · subst e; exact of_decide_eq_true hb.2.1
      · exact ih (by omega) hb.1 j (by omega)
  exact hall xs.length (Nat.le_refl _) h.2.2 k hk
theorem yw_img {s : ByteArray} {xs : List Int} (h : ywOk s xs = true) : 64 ≤ s.size := by
  unfold ywOk at h
  rw [Bool.and_eq_true, Bool.and_eq_true] at h
  have := h.2.1
  unfold imgB at this
  simp at this
  omega
theorem ywK_at (s : ByteArray) (xs : List Int) (n k : Nat) (h : k < n) : (ywK s xs n)[k]'(by rw [ywK_len]; exact h) = wOf s xs k := by
  induction n with
  | zero => omega
  | succ n ih =>
    by_cases e : k = n
    · subst e
      simp only [ywK]
      rw [List.getElem_append_right (by rw [ywK_len]; exact Nat.le_refl _)]
      simp
    · simp only [ywK]
      rw [List.getElem_append_left (by rw [ywK_len]; omega)]
      exact ih (by omega)
/-- As ptL, by what an iterator gives. -/
def ptF (s : ByteArray) (fr to : List Int) (l : List (Wb s.size)) : List UInt8 := l.foldl (fun acc x => putAt acc (8 * x.1.1.toNat) (turned fr to x.1.2).data.toList) s.data.toList
theorem ptF_snoc (s : ByteArray) (fr to : List Int) (l : List (Wb s.size)) (x : Wb s.size) : ptF s fr to (l ++ [x]) = putAt (ptF s fr to l) (8 * x.1.1.toNat) (turned fr to x.1.2).data.toList := by
  unfold ptF; rw [List.foldl_append]; rfl
theorem wb_in {z : Nat} (h : 8 ≤ z) (x : Wb z) : 8 * x.1.1.toNat + 8 ≤ z := by
  obtain ⟨x, h0, h1, h2⟩ := x
  show 8 * x.1.toNat + 8 ≤ z
  omega
theorem ptF_len (s : ByteArray) (fr to : List Int) (h : 8 ≤ s.size) : ∀ (n : Nat) (l : List (Wb s.size)), l.length = n → (ptF s fr to l).length = s.size
  | 0, l, e => by rw [List.length_eq_zero_iff.1 e]; simp [ptF]
  | n + 1, l, e => by
    have hne : l ≠ [] := fun q => by rw [q] at e; cases e
    rw [← List.dropLast_concat_getLast hne, ptF_snoc]
    have h1 := ptF_len s fr to h n l.dropLast (by rw [List.length_dropLast]; omega)
    rw [putAt_len _ _ _ (by rw [h1, turned_len]; exact wb_in h _), h1]
theorem ptF_upto (s : ByteArray) (fr to xs : List Int) (k : Nat) (h : ∀ j, j < k → 0 ≤ xs.getD j 0 ∧ 8 * xs.getD j 0 + 8 ≤ (s.size : Int)) : ptF s fr to (upto s xs k) = ptL s fr to xs k := by
  induction k with
  | zero => rfl
  | succ k ih =>
    rw [upto_succ, ptF_snoc, ih (fun j hj => h j (by omega)), ptL, fK_val s xs k (h k (by omega))]
end Go.Proofs.Ytjdlphebnhkghaa.pt
