/-
  Plain mathematics of bytes and words: the number that a list of bytes makes, the highest first; no Go text is named here.
-/
import Derived.WalkKit
import Derived.Laws.Bits64b
namespace Go.Proofs.Ytjdlphebnhkghaa.wmath

theorem ret_int {k : IntKind} {a b : Int} (h : a = b) : Ending.returned (.int k a) = .returned (.int k b) := by rw [h]

/-- The number that bytes make, the highest first. -/
def num (l : List UInt8) : Nat := l.foldl (fun n c => n * 256 + c.toNat) 0

theorem num_snoc (l : List UInt8) (c : UInt8) : num (l ++ [c]) = num l * 256 + c.toNat := by
  unfold num; rw [List.foldl_append]; rfl

theorem foldl_lt (l : List UInt8) : ∀ m : Nat, l.foldl (fun n c => n * 256 + c.toNat) m < (m + 1) * 256 ^ l.length := by
  induction l with
  | nil => intro m; simp
  | cons c l ih =>
    intro m
    have h := ih (m * 256 + c.toNat)
    have hc := c.toNat_lt
    rw [List.foldl_cons, List.length_cons, Nat.pow_succ, Nat.mul_comm (256 ^ l.length) 256, ← Nat.mul_assoc]
    exact Nat.lt_of_lt_of_le h (Nat.mul_le_mul_right _ (by omega))

theorem num_lt (l : List UInt8) : num l < 256 ^ l.length := by
  have := foldl_lt l 0
  simpa [num] using this

theorem take_snoc (s : ByteArray) (k : Nat) (h : k < s.size) : s.data.toList.take (k + 1) = s.data.toList.take k ++ [s[k]] := by
  rw [List.take_succ_eq_append_getElem (by simpa using h)]; rfl

theorem num_take (s : ByteArray) (k : Nat) (h : k < s.size) : num (s.data.toList.take (k + 1)) = num (s.data.toList.take k) * 256 + s[k].toNat := by
  rw [take_snoc s k h, num_snoc]

theorem num_take_lt (s : ByteArray) (k : Nat) : num (s.data.toList.take k) < 256 ^ k :=
  Nat.lt_of_lt_of_le (num_lt _) (Nat.pow_le_pow_right (by decide) (List.length_take_le _ _))

/-- One round: shifted by eight, a byte laid in. -/
theorem shl_or (m b : Nat) (hm : m < 72057594037927936) (hb : b < 256) :
    bits BinOp.or IntKind.u64 ((m : Int) * 256) (IntKind.u64.wrap (b : Int)) = ((m * 256 + b : Nat) : Int) := by
  have e1 : ((m : Int) * 256) = ((m * 256 : Nat) : Int) := by omega
  have e2 : IntKind.u64.wrap (b : Int) = (b : Int) := by rw [IntKind.wrap_u64]; omega
  rw [e1, e2, bits_or_u64_nat _ _ (by omega) (by omega)]
  have := Nat.two_pow_add_eq_or_of_lt (i := 8) (b := b) (by simpa using hb) m
  rw [show m * 256 = 2 ^ 8 * m from by omega, ← this]

theorem shl_or_plain (m b : Nat) (hm : m < 72057594037927936) (hb : b < 256) :
    bits BinOp.or IntKind.u64 ((m : Int) * 256) (b : Int) = ((m * 256 + b : Nat) : Int) := by
  have h := shl_or m b hm hb
  have e2 : IntKind.u64.wrap (b : Int) = (b : Int) := by rw [IntKind.wrap_u64]; omega
  rwa [e2] at h

theorem foldl_num (l : List UInt8) : ∀ m : Nat, l.foldl (fun n c => n * 256 + c.toNat) m = m * 256 ^ l.length + num l := by
  induction l with
  | nil => intro m; simp [num]
  | cons c l ih =>
    intro m
    have e1 := ih (m * 256 + c.toNat)
    have e2 := ih (0 * 256 + c.toNat)
    have e3 : num (c :: l) = l.foldl (fun n c => n * 256 + c.toNat) (0 * 256 + c.toNat) := rfl
    have e4 : num (c :: l) = c.toNat * 256 ^ l.length + num l := by rw [e3, e2]; simp
    rw [List.foldl_cons, e1, e4, List.length_cons, Nat.pow_succ, Nat.add_mul, Nat.mul_assoc, Nat.mul_comm 256 (256 ^ l.length), Nat.add_assoc]

theorem num_cons (c : UInt8) (l : List UInt8) : num (c :: l) = c.toNat * 256 ^ l.length + num l := by
  have := foldl_num l (0 * 256 + c.toNat)
  have e3 : num (c :: l) = l.foldl (fun n c => n * 256 + c.toNat) (0 * 256 + c.toNat) := rfl
  rw [e3, this]
  simp

/-- Of two equally long texts the one with the smaller number is the smaller one. -/
theorem less_num : ∀ (x y : List UInt8), x.length = y.length → Op.bytesLess x y = decide (num x < num y)
  | [], [], _ => by simp [Op.bytesLess]
  | a :: x, b :: y, h => by
    have hl : x.length = y.length := by simpa using h
    have ih := less_num x y hl
    have hx := num_lt x
    have hy := num_lt y
    rw [Op.bytesLess, ih, num_cons, num_cons, hl]
    rw [hl] at hx
    generalize 256 ^ y.length = P at *
    rcases Nat.lt_trichotomy a.toNat b.toNat with hlt | heq | hgt
    · have h1 : a < b := UInt8.lt_iff_toNat_lt.2 hlt
      have h2 : a.toNat * P + num x < b.toNat * P + num y := by
        have : (a.toNat + 1) * P ≤ b.toNat * P := Nat.mul_le_mul_right _ hlt
        rw [Nat.add_mul] at this
        omega
      simp [h1, h2]
    · have h1 : a = b := UInt8.toNat_inj.1 heq
      subst h1
      simp
    · have h1 : ¬ a < b := fun h => by have := UInt8.lt_iff_toNat_lt.1 h; omega
      have h3 : ¬ a = b := fun h => by subst h; omega
      have h2 : ¬ a.toNat * P + num x < b.toNat * P + num y := by
        have : (b.toNat + 1) * P ≤ a.toNat * P := Nat.mul_le_mul_right _ hgt
        rw [Nat.add_mul] at this
        omega
      simp [h1, h2, h3]
end Go.Proofs.Ytjdlphebnhkghaa.wmath
