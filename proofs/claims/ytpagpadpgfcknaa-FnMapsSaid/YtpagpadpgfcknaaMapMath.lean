/-
  Lines come back from their map and a map from its lines; what was taken can be given; how many are free then.
-/
import Derived.Test.YtpagpadpgfcknaaMapOf
import Derived.Test.YtpagpadpgfcknaaGapMath
import Derived.Test.YtpagpadpgfcknaaDrawM
namespace Go.Proofs.Ytpagpadpgfcknaa.lb
open Go.RowKit

theorem mapOk_bits (m : ByteArray) : mapOk m = true ↔ m.size = 64 ∧ ∀ n, 128 ≤ n → n < 512 → bitAt m.data.toList n = false := by
  by_cases hs : m.size = 64
  · have hl : m.data.toList.length = 64 := by simpa using hs
    have h0 := among_all m.data.toList hl
    have e : mapOk m = decide (mix (· &&& ·) m.data.toList (runK 0 128) = m.data.toList) := by rw [h0, mapOk, hs]; rfl
    rw [e, decide_eq_true_eq]
    constructor
    · intro h
      refine ⟨hs, fun n h1 h2 => ?_⟩
      rw [← h, bit_and _ _ hl n h2, bit_run 0 128 n (by omega), decide_eq_false (by omega : ¬ n < 0 + 128)]
      simp
    · rintro ⟨_, h⟩
      apply bit_ext _ _ (by rw [mix_length]; exact hl) hl
      intro n hn
      rw [bit_and _ _ hl n hn, bit_run 0 128 n (by omega)]
      by_cases h1 : n < 128
      · rw [decide_eq_true (by omega : 0 ≤ n), decide_eq_true (by omega : n < 0 + 128)]; simp
      · rw [h n (by omega) hn]; rfl
  · constructor
    · intro h; exact absurd (mapOk_size h) hs
    · rintro ⟨h, _⟩; exact absurd h hs
theorem size_mk (l : List UInt8) : (ByteArray.mk l.toArray).size = l.length := by show l.toArray.size = _; simp
theorem data_mk (l : List UInt8) : (ByteArray.mk l.toArray).data.toList = l := by simp
theorem mk_data (m : ByteArray) : ByteArray.mk m.data.toList.toArray = m := by cases m; simp
/-- The lines of which f says so. -/
def linesF (f : Nat → Bool) : Nat → List Int
  | 0 => []
  | k + 1 => linesF f k ++ (if f k = true then [(k : Int)] else [])
theorem linesL_F (l : List UInt8) (k : Nat) : linesL l k = linesF (bitAt l) k := by
  induction k with
  | zero => rfl
  | succ k ih => rw [linesL, linesF, ih]
theorem linesF_congr {f g : Nat → Bool} (k : Nat) (h : ∀ n, n < k → f n = g n) : linesF f k = linesF g k := by
  induction k with
  | zero => rfl
  | succ k ih => rw [linesF, linesF, ih (fun n hn => h n (by omega)), h k (by omega)]
theorem linesF_skip {f : Nat → Bool} (p k : Nat) (hp : p ≤ k) (h : ∀ n, p ≤ n → n < k → f n = false) : linesF f k = linesF f p := by
  induction k with
  | zero => rw [show p = 0 by omega]
  | succ k ih =>
    by_cases e : p = k + 1
    · rw [e]
    · rw [linesF, h k (by omega) (by omega), ih (by omega) (fun n h1 h2 => h n h1 (by omega))]; simp
theorem linesF_ok (f : Nat → Bool) (k : Nat) (hk : k ≤ 128) : okN (linesF f k) (linesF f k).length = true ∧ prevN (linesF f k) (linesF f k).length < (k : Int) := by
  induction k with
  | zero => exact ⟨rfl, by show (-1 : Int) < 0; omega⟩
  | succ k ih =>
    obtain ⟨h1, h2⟩ := ih (by omega)
    rw [linesF]
    cases f k with
    | false => simp; exact ⟨h1, by omega⟩
    | true =>
      obtain ⟨s1, s2⟩ := okN_snoc (linesF f k) (k : Int) h1 h2 (by omega)
      exact ⟨s1, by simp only [if_true]; rw [s2]; omega⟩
theorem mem_linesF (f : Nat → Bool) (k n : Nat) : ((n : Int) ∈ linesF f k) ↔ n < k ∧ f n = true := by
  induction k with
  | zero => simp [linesF]
  | succ k ih =>
    rw [linesF, List.mem_append, ih]
    by_cases hf : f k = true
    · rw [if_pos hf, List.mem_singleton]
      constructor
      · rintro (⟨h1, h2⟩ | h)
        · exact ⟨by omega, h2⟩
        · have e : n = k := by omega
          subst e; exact ⟨by omega, hf⟩
      · rintro ⟨h1, h2⟩
        by_cases e : n = k
        · exact .inr (by omega)
        · exact .inl ⟨by omega, h2⟩
    · rw [if_neg hf]
      constructor
      · rintro (⟨h1, h2⟩ | h)
        · exact ⟨by omega, h2⟩
        · simp at h
      · rintro ⟨h1, h2⟩
        by_cases e : n = k
        · subst e; exact absurd h2 hf
        · exact .inl ⟨by omega, h2⟩
theorem setsK_app (xs ys : List Int) (k : Nat) (hk : k ≤ xs.length) : setsK (xs ++ ys) k = setsK xs k := by
  induction k with
  | zero => rfl
  | succ k ih =>
    have e : (xs ++ ys).getD k 0 = xs.getD k 0 := by
      rw [List.getD_eq_getElem?_getD, List.getD_eq_getElem?_getD, List.getElem?_append_left (by omega)]
    rw [setsK, setsK, ih (by omega), e]
/-- Rising lines, the last one apart. -/
theorem ok_snoc_inv {xs : List Int} {x : Int} (h : okN (xs ++ [x]) (xs ++ [x]).length = true) : okN xs xs.length = true ∧ prevN xs xs.length < x ∧ x < 128 := by
  rw [show (xs ++ [x]).length = xs.length + 1 by simp, okN, Bool.and_eq_true, Bool.and_eq_true] at h
  obtain ⟨h1, h2, h3⟩ := h
  obtain ⟨e1, e2⟩ := okN_app xs [x] xs.length (Nat.le_refl _)
  have e : (xs ++ [x]).getD xs.length 0 = x := by rw [List.getD_eq_getElem?_getD]; simp
  rw [e2] at h1
  rw [e1, e] at h2
  rw [e] at h3
  exact ⟨h1, of_decide_eq_true h2, of_decide_eq_true h3⟩
theorem sets_snoc (xs : List Int) (x : Int) : setsK (xs ++ [x]) (xs ++ [x]).length = setBit (setsK xs xs.length) x.toNat := by
  have e : (xs ++ [x]).getD xs.length 0 = x := by rw [List.getD_eq_getElem?_getD]; simp
  rw [show (xs ++ [x]).length = xs.length + 1 by simp, setsK, setsK_app xs [x] xs.length (Nat.le_refl _), e]
theorem snoc_ind {P : List Int → Prop} (h0 : P []) (h1 : ∀ xs x, P xs → P (xs ++ [x])) : ∀ xs, P xs := by
  intro xs
  have : ∀ n (ys : List Int), ys.length = n → P ys := by
    intro n
    induction n with
    | zero => intro ys h; rw [List.length_eq_zero_iff.1 h]; exact h0
    | succ n ih =>
      intro ys h
      have hne : ys ≠ [] := by intro e; simp [e] at h
      have e := List.dropLast_concat_getLast hne
      rw [← e]
      exact h1 _ _ (ih _ (by simp [h]))
  exact this _ xs rfl
theorem ok_mem (xs : List Int) : okN xs xs.length = true → (∀ y ∈ xs, 0 ≤ y ∧ y ≤ prevN xs xs.length) ∧ ∀ n, n < 512 → bitAt (setsK xs xs.length) n = decide ((n : Int) ∈ xs) := by
  refine snoc_ind (P := fun xs => okN xs xs.length = true → (∀ y ∈ xs, 0 ≤ y ∧ y ≤ prevN xs xs.length) ∧ ∀ n, n < 512 → bitAt (setsK xs xs.length) n = decide ((n : Int) ∈ xs)) ?_ ?_ xs
  · intro _
    exact ⟨fun y h => by simp at h, fun n _ => by show bitAt zeros n = _; rw [bit_zeros]; simp⟩
  · intro xs x ih h
    obtain ⟨h1, h2, h3⟩ := ok_snoc_inv h
    obtain ⟨i1, i2⟩ := ih h1
    have hp := prevN_ge xs xs.length h1
    have hs := (okN_snoc xs x h1 h2 h3).2
    refine ⟨fun y hy => ?_, fun n hn => ?_⟩
    · rw [hs]
      rcases List.mem_append.1 hy with hy | hy
      · have := i1 y hy; omega
      · simp at hy; omega
    · rw [sets_snoc, bit_setBit _ (setsK_length xs _) _ _ (by omega), i2 n hn, Bool.eq_iff_iff]
      simp
      have e : n = x.toNat ↔ (n : Int) = x := by omega
      rw [e]
theorem lines_back (xs : List Int) : okN xs xs.length = true → ∀ k : Nat, (∀ y ∈ xs, y < (k : Int)) → linesF (fun n => decide ((n : Int) ∈ xs)) k = xs := by
  refine snoc_ind (P := fun xs => okN xs xs.length = true → ∀ k : Nat, (∀ y ∈ xs, y < (k : Int)) → linesF (fun n => decide ((n : Int) ∈ xs)) k = xs) ?_ ?_ xs
  · intro _ k _
    rw [linesF_skip 0 k (Nat.zero_le _) (fun n _ _ => by simp)]; rfl
  · intro xs x ih h k hk
    obtain ⟨h1, h2, h3⟩ := ok_snoc_inv h
    obtain ⟨i1, _⟩ := ok_mem xs h1
    have hp := prevN_ge xs xs.length h1
    obtain ⟨p, rfl⟩ := Int.eq_ofNat_of_zero_le (by omega : 0 ≤ x)
    have hpk : p < k := by have := hk (p : Int) (by simp); omega
    rw [linesF_skip (p + 1) k (by omega) (fun n q1 q2 => by
      simp
      refine ⟨fun hm => ?_, by omega⟩
      have := i1 _ hm
      omega)]
    rw [linesF, linesF_congr (g := fun n => decide ((n : Int) ∈ xs)) p (fun n hn => by
      have : ¬ (n : Int) = (p : Int) := by omega
      simp [this]), ih h1 p (fun y hy => by have := i1 y hy; omega)]
    simp
theorem mapOfS_ok (xs : List Int) (h : okN xs xs.length = true) : mapOk (mapOfS xs) = true ∧ (mapOfS xs).size = 64 ∧ linesOf (mapOfS xs) = xs := by
  have e : mapOfS xs = ⟨(setsK xs xs.length).toArray⟩ := by rw [mapOfS, if_pos h]
  have hl := setsK_length xs xs.length
  obtain ⟨i1, i2⟩ := ok_mem xs h
  have hp := prevN_ge xs xs.length h
  have hm : mapOk (mapOfS xs) = true := by
    rw [mapOk_bits, e, size_mk, data_mk]
    refine ⟨hl, fun n h1 h2 => ?_⟩
    rw [i2 n h2, decide_eq_false_iff_not]
    intro hmem
    have := i1 _ hmem
    omega
  refine ⟨hm, by rw [e, size_mk]; exact hl, ?_⟩
  rw [linesOf, hm, if_pos rfl, e, data_mk, linesL_F]
  rw [linesF_congr (g := fun n => decide ((n : Int) ∈ xs)) 128 (fun n hn => i2 n (by omega))]
  exact lines_back xs h 128 (fun y hy => by have := i1 y hy; omega)
theorem mapOfS_no (xs : List Int) (h : okN xs xs.length = false) : mapOfS xs = ⟨#[]⟩ := by rw [mapOfS, h]; rfl
theorem map_back (m : ByteArray) (h : mapOk m = true) : mapOfS (linesOf m) = m := by
  obtain ⟨hs, hb⟩ := (mapOk_bits m).1 h
  have hl : m.data.toList.length = 64 := by simpa using hs
  have e : linesOf m = linesF (bitAt m.data.toList) 128 := by rw [linesOf, h, if_pos rfl, linesL_F]
  obtain ⟨k1, _⟩ := linesF_ok (bitAt m.data.toList) 128 (Nat.le_refl _)
  rw [e, mapOfS, if_pos k1]
  obtain ⟨_, i2⟩ := ok_mem _ k1
  have : setsK (linesF (bitAt m.data.toList) 128) (linesF (bitAt m.data.toList) 128).length = m.data.toList := by
    apply bit_ext _ _ (setsK_length _ _) hl
    intro n hn
    rw [i2 n hn, Bool.eq_iff_iff, decide_eq_true_eq, mem_linesF]
    constructor
    · rintro ⟨_, q⟩; exact q
    · intro q
      refine ⟨?_, q⟩
      by_cases e : n < 128
      · exact e
      · rw [hb n (by omega) hn] at q; cases q
  rw [this, mk_data]
/-- What was taken. -/
theorem take_give (m : ByteArray) (a n : Int) (h : takeOk m a n = true) : mapOk (turned m a n) = true ∧ giveOk (turned m a n) a n = true ∧ turned (turned m a n) a n = m ∧ takeOk (turned m a n) a n = false := by
  unfold takeOk at h
  rw [Bool.and_eq_true, Bool.and_eq_true] at h
  obtain ⟨⟨hm, hr⟩, hf⟩ := h
  obtain ⟨A, N, rfl, rfl, h128, hN⟩ := runOkB_nat hr
  simp only [Int.toNat_natCast] at hf
  obtain ⟨hs, hb⟩ := (mapOk_bits m).1 hm
  have hl : m.data.toList.length = 64 := by simpa using hs
  have e : turned m (A : Int) (N : Int) = ⟨(turnK m.data.toList A N).toArray⟩ := by simp [turned]
  have htl : (turnK m.data.toList A N).length = 64 := by rw [turnK_length]; exact hl
  have hm2 : mapOk (turned m (A : Int) (N : Int)) = true := by
    rw [mapOk_bits, e, size_mk, data_mk]
    refine ⟨htl, fun n h1 h2 => ?_⟩
    rw [bit_turn _ hl A N n (by omega), hb n h1 h2, decide_eq_false (by omega : ¬ n < A + N)]
    simp
  rw [freeK_iff] at hf
  refine ⟨hm2, ?_, ?_, ?_⟩
  · rw [giveOk, hm2, hr, e, data_mk]
    simp only [Int.toNat_natCast, Bool.and_self, Bool.true_and]
    rw [fullK_iff]
    intro j h1 h2
    rw [bit_turn _ hl A N j (by omega), hf j h1 h2, decide_eq_true h1, decide_eq_true h2]
    rfl
  · rw [turned, e, data_mk]
    simp only [Int.toNat_natCast]
    have : turnK (turnK m.data.toList A N) A N = m.data.toList := by
      apply bit_ext _ _ (by rw [turnK_length]; exact htl) hl
      intro j hj
      rw [bit_turn _ htl A N j (by omega), bit_turn _ hl A N j (by omega), Bool.xor_assoc, Bool.xor_self, Bool.xor_false]
    rw [this, mk_data]
  · rw [takeOk, hm2, hr, e, data_mk]
    simp only [Int.toNat_natCast, Bool.and_self, Bool.true_and]
    cases hq : freeK (turnK m.data.toList A N) A N with
    | false => rfl
    | true =>
      rw [freeK_iff] at hq
      have := hq A (Nat.le_refl _) (by omega)
      rw [bit_turn _ hl A N A (by omega), hf A (Nat.le_refl _) (by omega), decide_eq_true (Nat.le_refl A), decide_eq_true (by omega : A < A + N)] at this
      cases this
theorem free_turn (l : List UInt8) (hl : l.length = 64) (a k : Nat) (h : a + k ≤ 128) (hf : freeK l a k = true) (j : Nat) : freeN l 0 j = freeN (turnK l a k) 0 j + (min j (a + k) - a) := by
  rw [freeK_iff] at hf
  induction j with
  | zero => simp [freeN]
  | succ j ih =>
    rw [freeN, freeN, ih, Nat.zero_add, bit_turn l hl a k j (by omega)]
    by_cases h1 : a ≤ j
    · by_cases h2 : j < a + k
      · rw [hf j h1 h2, decide_eq_true h1, decide_eq_true h2]
        simp
        omega
      · rw [decide_eq_false h2]
        simp
        omega
    · rw [decide_eq_false h1]
      simp
      omega
theorem free_taken (m : ByteArray) (a n : Int) (h : takeOk m a n = true) : freeOf (turned m a n) 0 128 = freeOf m 0 128 - n := by
  have hm2 := (take_give m a n h).1
  unfold takeOk at h
  rw [Bool.and_eq_true, Bool.and_eq_true] at h
  obtain ⟨⟨hm, hr⟩, hf⟩ := h
  obtain ⟨A, N, rfl, rfl, h128, hN⟩ := runOkB_nat hr
  simp only [Int.toNat_natCast] at hf
  have hl : m.data.toList.length = 64 := by have := mapOk_size hm; simpa using this
  have e : turned m (A : Int) (N : Int) = ⟨(turnK m.data.toList A N).toArray⟩ := by simp [turned]
  have hrr : rangeB 0 128 = true := by decide
  rw [freeOf, freeOf, hm2, hm, hrr, Bool.and_self, if_pos rfl, if_pos rfl, e, data_mk]
  have := free_turn m.data.toList hl A N h128 hf 128
  have hmin : min 128 (A + N) = A + N := by omega
  rw [hmin] at this
  show ((freeN _ 0 128 : Nat) : Int) = ((freeN _ 0 128 : Nat) : Int) - (N : Int)
  omega
end Go.Proofs.Ytpagpadpgfcknaa.lb
