/-
  Lists of 64 bytes told by their bits: equal where all bits are; and, or, and not, runs and turned runs, bit by bit.
-/
import Derived.Test.YtomlogkbndmaaaaBits2
namespace Go.Proofs.Ytomlogkbndmaaaa.lb
open Go.RowKit

theorem bit_ext (a b : List UInt8) (ha : a.length = 64) (hb : b.length = 64) (h : ∀ n, n < 512 → bitAt a n = bitAt b n) : a = b := by
  apply List.ext_getElem (by omega)
  intro j h1 h2
  rw [getD_at _ _ h1, getD_at _ _ h2]
  apply UInt8.toNat.inj
  apply Nat.eq_of_testBit_eq
  intro k
  by_cases hk : k < 8
  · have := h (8 * j + k) (by omega)
    unfold bitAt at this
    rw [show (8 * j + k) / 8 = j by omega, show (8 * j + k) % 8 = k by omega] at this
    exact this
  · have e : ∀ x : UInt8, x.toNat.testBit k = false := fun x => Nat.testBit_lt_two_pow (Nat.lt_of_lt_of_le x.toNat_lt (Nat.pow_le_pow_right (by omega) (by omega : 8 ≤ k)))
    rw [e, e]
theorem bit_mix (f : UInt8 → UInt8 → UInt8) (g : Bool → Bool → Bool) (hf : ∀ (x y : UInt8) (k : Nat), k < 8 → (f x y).toNat.testBit k = g (x.toNat.testBit k) (y.toNat.testBit k)) (a b : List UInt8) (ha : a.length = 64) (n : Nat) (hn : n < 512) : bitAt (mix f a b) n = g (bitAt a n) (bitAt b n) := by
  unfold bitAt mix
  rw [List.getD_eq_getElem?_getD, mixK_get, if_pos (by omega)]
  exact hf _ _ _ (by omega)
theorem bit_or (a b : List UInt8) (ha : a.length = 64) (n : Nat) (hn : n < 512) : bitAt (mix (· ||| ·) a b) n = (bitAt a n || bitAt b n) :=
  bit_mix _ _ (fun x y k _ => by rw [UInt8.toNat_or, Nat.testBit_or]) a b ha n hn
theorem bit_and (a b : List UInt8) (ha : a.length = 64) (n : Nat) (hn : n < 512) : bitAt (mix (· &&& ·) a b) n = (bitAt a n && bitAt b n) :=
  bit_mix _ _ (fun x y k _ => by rw [UInt8.toNat_and, Nat.testBit_and]) a b ha n hn
theorem bit_not (y : UInt8) (k : Nat) (hk : k < 8) : (~~~y).toNat.testBit k = !y.toNat.testBit k := by
  rw [UInt8.toNat_not]
  have := Nat.testBit_two_pow_sub_succ (n := 8) (x := y.toNat) y.toNat_lt k
  rw [show UInt8.size - 1 - y.toNat = 2 ^ 8 - (y.toNat + 1) by show 256 - 1 - y.toNat = 256 - (y.toNat + 1); omega, this]
  simp [hk]
theorem bit_andNot (a b : List UInt8) (ha : a.length = 64) (n : Nat) (hn : n < 512) : bitAt (mix (fun x y => x &&& ~~~y) a b) n = (bitAt a n && !bitAt b n) :=
  bit_mix _ (fun p q => p && !q) (fun x y k hk => by rw [UInt8.toNat_and, Nat.testBit_and, bit_not y k hk]) a b ha n hn
theorem bitOf_test (p k : Nat) : (bitOf p).toNat.testBit k = decide (p % 8 = k) := by
  rw [bitOf_nat, Nat.testBit_two_pow]
theorem bit_set (f : UInt8 → UInt8 → UInt8) (g : Bool → Bool → Bool) (hf : ∀ (x y : UInt8) (k : Nat), (f x y).toNat.testBit k = g (x.toNat.testBit k) (y.toNat.testBit k)) (hg : ∀ q, g q false = q) (l : List UInt8) (hl : l.length = 64) (p n : Nat) (hp : p < 512) :
    bitAt (l.set (p / 8) (f (l.getD (p / 8) 0) (bitOf p))) n = g (bitAt l n) (decide (n = p)) := by
  unfold bitAt
  rw [List.getD_eq_getElem?_getD, List.getElem?_set]
  by_cases h : p / 8 = n / 8
  · rw [if_pos h, if_pos (by omega), Option.getD_some, hf, bitOf_test, h]
    have : decide (p % 8 = n % 8) = decide (n = p) := by rw [decide_eq_decide]; omega
    rw [this]
  · rw [if_neg h, ← List.getD_eq_getElem?_getD]
    have : decide (n = p) = false := by rw [decide_eq_false_iff_not]; intro e; exact h (by rw [e])
    rw [this, hg]
theorem bit_setBit (l : List UInt8) (hl : l.length = 64) (p n : Nat) (hp : p < 512) : bitAt (setBit l p) n = (bitAt l n || decide (n = p)) :=
  bit_set _ _ (fun x y k => by rw [UInt8.toNat_or, Nat.testBit_or]) (by simp) l hl p n hp
theorem bit_zeros (n : Nat) : bitAt zeros n = false := by
  unfold bitAt zeros
  rw [List.getD_eq_getElem?_getD, List.getElem?_replicate]
  split <;> simp
theorem bit_run (a k n : Nat) (h : a + k ≤ 512) : bitAt (runK a k) n = (decide (a ≤ n) && decide (n < a + k)) := by
  induction k with
  | zero =>
    rw [runK, bit_zeros, Bool.eq_iff_iff]
    simp
  | succ k ih =>
    rw [runK, bit_setBit _ (runK_length a k) _ _ (by omega), ih (by omega), Bool.eq_iff_iff]
    simp
    omega
/-- The bits of k lines turned. -/
def turnBit (l : List UInt8) (p : Nat) : List UInt8 := l.set (p / 8) (l.getD (p / 8) 0 ^^^ bitOf p)
def turnK (l : List UInt8) (a : Nat) : Nat → List UInt8
  | 0 => l
  | k + 1 => turnBit (turnK l a k) (a + k)
theorem turnK_length (l : List UInt8) (a k : Nat) : (turnK l a k).length = l.length := by
  induction k with
  | zero => rfl
  | succ k ih => rw [turnK, turnBit, List.length_set, ih]
theorem bit_turn (l : List UInt8) (hl : l.length = 64) (a k n : Nat) (h : a + k ≤ 512) : bitAt (turnK l a k) n = (bitAt l n ^^ (decide (a ≤ n) && decide (n < a + k))) := by
  induction k with
  | zero =>
    have : (decide (a ≤ n) && decide (n < a + 0)) = false := by simp
    rw [turnK, this, Bool.xor_false]
  | succ k ih =>
    rw [turnK, turnBit, bit_set _ (fun p q => p ^^ q) (fun x y k => by rw [UInt8.toNat_xor, Nat.testBit_xor]) (by simp) _ (by rw [turnK_length]; exact hl) _ _ (by omega), ih (by omega), Bool.xor_assoc]
    congr 1
    by_cases h1 : a ≤ n
    · by_cases h2 : n < a + k
      · rw [decide_eq_true h1, decide_eq_true h2, decide_eq_false (by omega : ¬ n = a + k), decide_eq_true (by omega : n < a + (k + 1))]; rfl
      · by_cases h3 : n = a + k
        · rw [decide_eq_true h1, decide_eq_false h2, decide_eq_true h3, decide_eq_true (by omega : n < a + (k + 1))]; rfl
        · rw [decide_eq_true h1, decide_eq_false h2, decide_eq_false h3, decide_eq_false (by omega : ¬ n < a + (k + 1))]; rfl
    · rw [decide_eq_false h1, decide_eq_false (by omega : ¬ n = a + k)]; rfl
/-- Of k lines from a on none is taken. -/
def freeK (l : List UInt8) (a : Nat) : Nat → Bool
  | 0 => true
  | k + 1 => freeK l a k && !bitAt l (a + k)
theorem freeK_iff (l : List UInt8) (a k : Nat) : freeK l a k = true ↔ ∀ n, a ≤ n → n < a + k → bitAt l n = false := by
  induction k with
  | zero => simp [freeK]; intro n; omega
  | succ k ih =>
    rw [freeK, Bool.and_eq_true, ih]
    constructor
    · rintro ⟨h1, h2⟩ n h3 h4
      by_cases e : n = a + k
      · rw [e]; simpa using h2
      · exact h1 n h3 (by omega)
    · intro h
      exact ⟨fun n h1 h2 => h n h1 (by omega), by rw [h (a + k) (by omega) (by omega)]; rfl⟩
/-- All of them are. -/
def fullK (l : List UInt8) (a : Nat) : Nat → Bool
  | 0 => true
  | k + 1 => fullK l a k && bitAt l (a + k)
theorem fullK_iff (l : List UInt8) (a k : Nat) : fullK l a k = true ↔ ∀ n, a ≤ n → n < a + k → bitAt l n = true := by
  induction k with
  | zero => simp [fullK]; intro n; omega
  | succ k ih =>
    rw [fullK, Bool.and_eq_true, ih]
    constructor
    · rintro ⟨h1, h2⟩ n h3 h4
      by_cases e : n = a + k
      · rw [e]; exact h2
      · exact h1 n h3 (by omega)
    · intro h
      exact ⟨fun n h1 h2 => h n h1 (by omega), h (a + k) (by omega) (by omega)⟩
theorem among_none (l : List UInt8) (hl : l.length = 64) (a k : Nat) (h : a + k ≤ 128) : decide (mix (· &&& ·) l (runK a k) = zeros) = freeK l a k := by
  rw [Bool.eq_iff_iff, decide_eq_true_eq, freeK_iff]
  constructor
  · intro e n h1 h2
    have := bit_and l (runK a k) hl n (by omega)
    rw [e, bit_zeros, bit_run a k n (by omega), decide_eq_true h1, decide_eq_true h2] at this
    simpa using this.symm
  · intro e
    apply bit_ext _ _ (by rw [mix_length]; exact hl) zeros_length
    intro n hn
    rw [bit_and l _ hl n hn, bit_zeros, bit_run a k n (by omega)]
    by_cases h1 : a ≤ n
    · by_cases h2 : n < a + k
      · rw [e n h1 h2]; rfl
      · rw [decide_eq_false h2]; simp
    · rw [decide_eq_false h1]; simp
theorem among_run (l : List UInt8) (hl : l.length = 64) (a k : Nat) (h : a + k ≤ 128) : decide (mix (· &&& ·) l (runK a k) = runK a k) = fullK l a k := by
  rw [Bool.eq_iff_iff, decide_eq_true_eq, fullK_iff]
  constructor
  · intro e n h1 h2
    have := bit_and l (runK a k) hl n (by omega)
    rw [e, bit_run a k n (by omega), decide_eq_true h1, decide_eq_true h2] at this
    simpa using this.symm
  · intro e
    apply bit_ext _ _ (by rw [mix_length]; exact hl) (runK_length a k)
    intro n hn
    rw [bit_and l _ hl n hn, bit_run a k n (by omega)]
    by_cases h1 : a ≤ n
    · by_cases h2 : n < a + k
      · rw [e n h1 h2]; rfl
      · rw [decide_eq_false h2]; simp
    · rw [decide_eq_false h1]; simp
theorem with_turn (l : List UInt8) (hl : l.length = 64) (a k : Nat) (h : a + k ≤ 128) (hf : freeK l a k = true) : mix (· ||| ·) l (runK a k) = turnK l a k := by
  rw [freeK_iff] at hf
  apply bit_ext _ _ (by rw [mix_length]; exact hl) (by rw [turnK_length]; exact hl)
  intro n hn
  rw [bit_or l _ hl n hn, bit_run a k n (by omega), bit_turn l hl a k n (by omega)]
  by_cases h1 : a ≤ n
  · by_cases h2 : n < a + k
    · rw [hf n h1 h2]; simp
    · rw [decide_eq_false h2]; simp
  · rw [decide_eq_false h1]; simp
theorem without_turn (l : List UInt8) (hl : l.length = 64) (a k : Nat) (h : a + k ≤ 128) (hf : fullK l a k = true) : mix (fun x y => x &&& ~~~y) l (runK a k) = turnK l a k := by
  rw [fullK_iff] at hf
  apply bit_ext _ _ (by rw [mix_length]; exact hl) (by rw [turnK_length]; exact hl)
  intro n hn
  rw [bit_andNot l _ hl n hn, bit_run a k n (by omega), bit_turn l hl a k n (by omega)]
  by_cases h1 : a ≤ n
  · by_cases h2 : n < a + k
    · rw [hf n h1 h2]; simp [h1, h2]
    · rw [decide_eq_false h2]; simp
  · rw [decide_eq_false h1]; simp
theorem with_setBit (l : List UInt8) (hl : l.length = 64) (p : Nat) (hp : p < 128) : mix (· ||| ·) l (runK p 1) = setBit l p := by
  apply bit_ext _ _ (by rw [mix_length]; exact hl) (by rw [setBit_length]; exact hl)
  intro n hn
  rw [bit_or l _ hl n hn, bit_run p 1 n (by omega), bit_setBit l hl p n (by omega)]
  congr 1
  rw [Bool.eq_iff_iff]
  simp
  omega
end Go.Proofs.Ytomlogkbndmaaaa.lb
