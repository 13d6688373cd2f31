/-
  Plain mathematics of the sum: one bit, eight bits, four bits by a table of sixteen; no Go text is named here.
-/
import Derived.WalkKit
import Derived.Laws.BytesArg
namespace Go.Proofs.YtpkdkkjdlhillaaDoor.crc

def step1 (c : Nat) : Nat := if c % 2 = 1 then (c / 2) ^^^ 3988292384 else c / 2
def stepN : Nat → Nat → Nat
  | 0, c => c
  | n + 1, c => step1 (stepN n c)
def byteStep (c : Nat) (b : UInt8) : Nat := stepN 8 (c ^^^ b.toNat)
def crcSt (l : List UInt8) : Nat := l.foldl byteStep 4294967295
/-- The sum of bytes. -/
def crcOf (l : List UInt8) : Nat := 4294967295 ^^^ crcSt l
/-- Its four bytes, the highest first. -/
def fourStr (x : Int) : ByteArray := strOfNums [x / 16777216 % 256, x / 65536 % 256, x / 256 % 256, x % 256]
def crcStr (l : List UInt8) : ByteArray := fourStr (crcOf l)
def tab (i : Nat) : Nat := [0, 498536548, 997073096, 651767980, 1994146192, 1802195444, 1303535960, 1342533948, 3988292384, 4027552580, 3604390888, 3412177804, 2607071920, 2262029012, 2685067896, 3183342108].getD i 0

theorem xor_lt {a b : Nat} (ha : a < 4294967296) (hb : b < 4294967296) : a ^^^ b < 4294967296 :=
  Nat.xor_lt_two_pow (n := 32) ha hb
theorem step1_lt {c : Nat} (h : c < 4294967296) : step1 c < 4294967296 := by
  unfold step1; split
  · exact xor_lt (by omega) (by omega)
  · omega
theorem stepN_lt (n : Nat) {c : Nat} (h : c < 4294967296) : stepN n c < 4294967296 := by
  induction n with
  | zero => exact h
  | succ n ih => exact step1_lt ih
theorem byteStep_lt {c : Nat} (b : UInt8) (h : c < 4294967296) : byteStep c b < 4294967296 :=
  stepN_lt 8 (xor_lt h (by have := b.toNat_lt; omega))
theorem crcSt_snoc (l : List UInt8) (c : UInt8) : crcSt (l ++ [c]) = byteStep (crcSt l) c := by
  unfold crcSt; rw [List.foldl_append]; rfl
theorem foldl_lt (l : List UInt8) : ∀ c : Nat, c < 4294967296 → l.foldl byteStep c < 4294967296 := by
  induction l with
  | nil => intro c h; exact h
  | cons b l ih => intro c h; exact ih _ (byteStep_lt b h)
theorem crcSt_lt (l : List UInt8) : crcSt l < 4294967296 := foldl_lt l _ (by omega)
theorem crcOf_lt (l : List UInt8) : crcOf l < 4294967296 := xor_lt (by omega) (crcSt_lt l)
theorem crcStr_size (l : List UInt8) : (crcStr l).size = 4 := rfl

theorem xor_mod2 (a b : Nat) : (a ^^^ b) % 2 = (a % 2 + b % 2) % 2 := by
  have h := @Nat.xor_mod_two_eq_one a b
  rcases Nat.mod_two_eq_zero_or_one (a ^^^ b) with hx | hx <;> rcases Nat.mod_two_eq_zero_or_one a with ha | ha <;> rcases Nat.mod_two_eq_zero_or_one b with hb | hb <;> simp [hx, ha, hb] at h ⊢
theorem xor_left (a b c : Nat) : a ^^^ (b ^^^ c) = b ^^^ (a ^^^ c) := by
  rw [← Nat.xor_assoc, Nat.xor_comm a b, Nat.xor_assoc]
theorem step1_xor (a b : Nat) : step1 (a ^^^ b) = step1 a ^^^ step1 b := by
  unfold step1
  rw [Nat.xor_div_two, xor_mod2]
  rcases Nat.mod_two_eq_zero_or_one a with ha | ha <;> rcases Nat.mod_two_eq_zero_or_one b with hb | hb
  · simp [ha, hb]
  · simp [ha, hb, Nat.xor_assoc]
  · simp only [ha, hb]
    rw [if_pos (by decide), if_pos (by decide), if_neg (by decide)]
    rw [Nat.xor_assoc, Nat.xor_assoc, Nat.xor_comm (b / 2)]
  · simp only [ha, hb]
    rw [if_neg (by decide), if_pos (by decide), if_pos (by decide)]
    rw [Nat.xor_assoc, xor_left 3988292384, Nat.xor_self, Nat.xor_zero]
theorem stepN_xor (n a b : Nat) : stepN n (a ^^^ b) = stepN n a ^^^ stepN n b := by
  induction n with
  | zero => rfl
  | succ n ih => show step1 _ = step1 _ ^^^ step1 _; rw [ih, step1_xor]
theorem stepN_add (n m c : Nat) : stepN (n + m) c = stepN n (stepN m c) := by
  induction n with
  | zero => rw [Nat.zero_add]; rfl
  | succ n ih => rw [Nat.succ_add]; show step1 _ = step1 _; rw [ih]
theorem step1_even (x : Nat) : step1 (2 * x) = x := by
  unfold step1; rw [if_neg (by omega)]; omega
theorem stepN_high (h : Nat) : stepN 4 (16 * h) = h := by
  show step1 (step1 (step1 (step1 (16 * h)))) = h
  rw [show 16 * h = 2 * (2 * (2 * (2 * h))) by omega, step1_even, step1_even, step1_even, step1_even]
theorem low_xor (i h : Nat) : ∀ l, l < 2 ^ i → (2 ^ i * h) ^^^ l = 2 ^ i * h + l := by
  induction i generalizing h with
  | zero => intro l hl; have : l = 0 := by simpa using hl
            subst this; simp
  | succ i ih =>
    intro l hl
    have e := ih h (l / 2) (by rw [Nat.pow_succ] at hl; omega)
    have hd : ((2 ^ (i + 1) * h) ^^^ l) / 2 = 2 ^ i * h + l / 2 := by
      rw [Nat.xor_div_two, ← e]
      congr 1
      rw [Nat.pow_succ, Nat.mul_right_comm]; omega
    have hm : ((2 ^ (i + 1) * h) ^^^ l) % 2 = l % 2 := by
      rw [xor_mod2, Nat.pow_succ, Nat.mul_right_comm]; omega
    have hx := Nat.div_add_mod ((2 ^ (i + 1) * h) ^^^ l) 2
    rw [hd, hm] at hx
    rw [← hx, Nat.pow_succ, Nat.mul_right_comm]
    omega
theorem tab_ok : ∀ l, l < 16 → stepN 4 l = tab l := by decide
/-- Four bits by the table. -/
theorem nib (c : Nat) : stepN 4 c = (c / 16) ^^^ tab (c % 16) := by
  have e : c = (16 * (c / 16)) ^^^ (c % 16) := by
    have := low_xor 4 (c / 16) (c % 16) (by omega)
    rw [show (2 : Nat) ^ 4 = 16 from rfl] at this
    rw [this]; omega
  have h := stepN_xor 4 (16 * (c / 16)) (c % 16)
  rw [stepN_high, tab_ok (c % 16) (by omega)] at h
  rw [← h, ← e]
theorem tab_lt (i : Nat) : tab i < 4294967296 := by
  by_cases h : i < 16
  · have : ∀ i, i < 16 → tab i < 4294967296 := by decide
    exact this i h
  · have : tab i = 0 := by unfold tab; rw [List.getD_eq_getElem?_getD, List.getElem?_eq_none (by simp; omega)]; rfl
    omega
theorem byteStep_nib (c : Nat) (b : UInt8) : byteStep c b = ((((c ^^^ b.toNat) / 16) ^^^ tab ((c ^^^ b.toNat) % 16)) / 16) ^^^ tab ((((c ^^^ b.toNat) / 16) ^^^ tab ((c ^^^ b.toNat) % 16)) % 16) := by
  unfold byteStep
  rw [show (8 : Nat) = 4 + 4 from rfl, stepN_add, nib (c ^^^ b.toNat), nib]
end Go.Proofs.YtpkdkkjdlhillaaDoor.crc
