/-
  Plain mathematics of sealed texts: a sealed text is opened to what was sealed and its noughts, and with one byte turned it is not opened.
-/
import Derived.Test.YtpkdkkjdlhillaaDoorUnseal
import Derived.Lib.Strings
namespace Go.Proofs.YtpkdkkjdlhillaaDoor.crc
open Go.RowKit

theorem bytes_of {s t : ByteArray} (h : s.data.toList = t.data.toList) : s = t := by
  obtain ⟨⟨l⟩⟩ := s
  obtain ⟨⟨m⟩⟩ := t
  simp at h
  rw [h]
theorem xor_cancel {a b c : Nat} (h : a ^^^ c = b ^^^ c) : a = b := by
  have := congrArg (· ^^^ c) h
  simpa [Nat.xor_assoc] using this
theorem xor_cancel_left {a b c : Nat} (h : c ^^^ a = c ^^^ b) : a = b := xor_cancel (c := c) (by rw [Nat.xor_comm a, Nat.xor_comm b]; exact h)
theorem high_bit {x : Nat} (h : x < 2147483648) : (x ^^^ 3988292384).testBit 31 = true := by
  rw [Nat.testBit_xor, Nat.testBit_lt_two_pow (x := x) (i := 31) (by simpa using h)]
  rfl
theorem step1_inj {a b : Nat} (ha : a < 4294967296) (hb : b < 4294967296) (h : step1 a = step1 b) : a = b := by
  unfold step1 at h
  by_cases pa : a % 2 = 1 <;> by_cases pb : b % 2 = 1
  · rw [if_pos pa, if_pos pb] at h
    have := xor_cancel h
    omega
  · rw [if_pos pa, if_neg pb] at h
    have h1 := high_bit (x := a / 2) (by omega)
    rw [h, Nat.testBit_lt_two_pow (x := b / 2) (i := 31) (by omega)] at h1
    cases h1
  · rw [if_neg pa, if_pos pb] at h
    have h1 := high_bit (x := b / 2) (by omega)
    rw [← h, Nat.testBit_lt_two_pow (x := a / 2) (i := 31) (by omega)] at h1
    cases h1
  · rw [if_neg pa, if_neg pb] at h
    omega
theorem stepN_inj (n : Nat) {a b : Nat} (ha : a < 4294967296) (hb : b < 4294967296) (h : stepN n a = stepN n b) : a = b := by
  induction n with
  | zero => exact h
  | succ n ih => exact ih (step1_inj (stepN_lt n ha) (stepN_lt n hb) h)
theorem byte_lt (b : UInt8) : b.toNat < 4294967296 := by have := b.toNat_lt; omega
theorem byteStep_inj {c d : Nat} (b : UInt8) (hc : c < 4294967296) (hd : d < 4294967296) (h : byteStep c b = byteStep d b) : c = d :=
  xor_cancel (stepN_inj 8 (xor_lt hc (byte_lt b)) (xor_lt hd (byte_lt b)) h)
theorem byteStep_byte {c : Nat} {b d : UInt8} (hc : c < 4294967296) (h : byteStep c b = byteStep c d) : b = d :=
  UInt8.toNat_inj.1 (xor_cancel_left (stepN_inj 8 (xor_lt hc (byte_lt b)) (xor_lt hc (byte_lt d)) h))
theorem foldl_inj (l : List UInt8) : ∀ {c d : Nat}, c < 4294967296 → d < 4294967296 → l.foldl byteStep c = l.foldl byteStep d → c = d := by
  induction l with
  | nil => intro c d _ _ h; exact h
  | cons b l ih => intro c d hc hd h; exact byteStep_inj b hc hd (ih (byteStep_lt b hc) (byteStep_lt b hd) h)
theorem crcSt_turned (x y : List UInt8) (b d : UInt8) (h : crcSt (x ++ b :: y) = crcSt (x ++ d :: y)) : b = d := by
  unfold crcSt at h
  rw [List.foldl_append, List.foldl_append, List.foldl_cons, List.foldl_cons] at h
  have hx := foldl_lt x 4294967295 (by omega)
  exact byteStep_byte hx (foldl_inj y (byteStep_lt b hx) (byteStep_lt d hx) h)
theorem byte_nat4 (n : Nat) : ((UInt8.ofNat ((n : Int) % 256).toNat).toNat : Int) = (n : Int) % 256 := by
  rw [UInt8.toNat_ofNat']; omega
theorem fourStr_inj {x y : Nat} (hx : x < 4294967296) (hy : y < 4294967296) (h : fourStr (x : Int) = fourStr (y : Int)) : x = y := by
  have h' : [UInt8.ofNat ((x : Int) / 16777216 % 256).toNat, UInt8.ofNat ((x : Int) / 65536 % 256).toNat, UInt8.ofNat ((x : Int) / 256 % 256).toNat, UInt8.ofNat ((x : Int) % 256).toNat] = [UInt8.ofNat ((y : Int) / 16777216 % 256).toNat, UInt8.ofNat ((y : Int) / 65536 % 256).toNat, UInt8.ofNat ((y : Int) / 256 % 256).toNat, UInt8.ofNat ((y : Int) % 256).toNat] := congrArg (fun s => s.data.toList) h
  simp only [List.cons.injEq, and_true] at h'
  obtain ⟨e0, e1, e2, e3⟩ := h'
  have f : ∀ n m : Nat, UInt8.ofNat ((n : Int) % 256).toNat = UInt8.ofNat ((m : Int) % 256).toNat → (n : Int) % 256 = (m : Int) % 256 := fun n m e => by
    have := congrArg (fun u : UInt8 => (u.toNat : Int)) e
    simpa only [byte_nat4] using this
  have g0 := f (x / 16777216) (y / 16777216) (by simpa using e0)
  have g1 := f (x / 65536) (y / 65536) (by simpa using e1)
  have g2 := f (x / 256) (y / 256) (by simpa using e2)
  have g3 := f x y e3
  omega
theorem crcStr_turned (x y : List UInt8) (b d : UInt8) (h : crcStr (x ++ b :: y) = crcStr (x ++ d :: y)) : b = d :=
  crcSt_turned x y b d (xor_cancel_left (fourStr_inj (crcOf_lt _) (crcOf_lt _) h))

theorem sealedB_iff (s : ByteArray) : sealedB s = true ↔ (crcStr (s.data.toList.take 60)).data.toList = (s.data.toList.drop 60).take 4 := by
  unfold sealedB
  rw [beq_iff_eq, ByteArray.toList_eq, ByteArray.toList_eq, Lib.extract_data, Lib.extract_data]
  simp
theorem padded_data (s : ByteArray) : (padded s).data.toList = s.data.toList ++ (zeroStr (60 - s.size)).data.toList := by
  rw [padded, ByteArray.data_append, Array.toList_append]
theorem sealed_data (s : ByteArray) : (sealedStr s).data.toList = (padded s).data.toList ++ (crcStr (padded s).data.toList).data.toList := by
  rw [sealedStr, ByteArray.data_append, Array.toList_append]
theorem padded_len (s : ByteArray) (h : s.size ≤ 60) : (padded s).data.toList.length = 60 := by simpa using padded_size s h
theorem sealed_head (s : ByteArray) (h : s.size ≤ 60) : (sealedStr s).extract 0 60 = padded s := by
  apply bytes_of
  rw [Lib.extract_data, sealed_data]
  simp [padded_len s h]
theorem sealed_ok (s : ByteArray) (h : s.size ≤ 60) : sealedB (sealedStr s) = true := by
  rw [sealedB_iff, sealed_data]
  have hl := padded_len s h
  rw [List.take_left' hl, List.drop_left' hl, List.take_of_length_le (by show 4 ≤ 4; omega)]
theorem unsealed_of (s : ByteArray) (h : s.size ≤ 60) : unsealedOf (sealedStr s) = padded s := by
  unfold unsealedOf
  rw [sealed_ok s h, if_pos rfl, sealed_head s h]
theorem padded_twice (s : ByteArray) (h : s.size ≤ 60) : padded (padded s) = padded s := by
  have e : padded (padded s) = padded s ++ zeroStr (60 - (padded s).size) := rfl
  rw [e, padded_size s h]
  apply bytes_of
  rw [ByteArray.data_append, Array.toList_append]
  show _ ++ [] = _
  simp
theorem sealed_twice (s : ByteArray) (h : s.size ≤ 60) : sealedStr (padded s) = sealedStr s := by
  have e : sealedStr (padded s) = padded (padded s) ++ crcStr (padded (padded s)).data.toList := rfl
  rw [e, padded_twice s h]
  rfl
theorem padded_front (s : ByteArray) : (padded s).extract 0 s.size = s := by
  apply bytes_of
  rw [Lib.extract_data, padded_data]
  simp
theorem crcStr_set (l : List UInt8) (i : Nat) (hi : i < l.length) (b : UInt8) (h : crcStr (l.set i b) = crcStr l) : l[i] = b := by
  have e : l.set i l[i] = l := List.set_getElem_self hi
  have h2 : crcStr (l.set i b) = crcStr (l.set i l[i]) := by rw [e]; exact h
  rw [List.set_eq_take_append_cons_drop, if_pos hi, List.set_eq_take_append_cons_drop, if_pos hi] at h2
  exact (crcStr_turned _ _ _ _ h2).symm
theorem set_same (l : List UInt8) (i : Nat) (hi : i < l.length) (b : UInt8) (h : l = l.set i b) : l[i] = b := by
  have h1 : l[i]? = (l.set i b)[i]? := congrArg (·[i]?) h
  rw [List.getElem?_set_self hi, List.getElem?_eq_getElem hi] at h1
  exact Option.some.inj h1
/-- With one byte turned it is not opened. -/
theorem turned_not (t u : ByteArray) (i : Nat) (b : UInt8) (ht : t.size = 64) (hs : sealedB t = true) (hi : i < t.data.toList.length) (hne : t.data.toList[i] ≠ b) (hu : u.data.toList = t.data.toList.set i b) : sealedB u = false := by
  rw [sealedB_iff] at hs
  have hl : t.data.toList.length = 64 := by simpa using ht
  cases hb : sealedB u with
  | false => rfl
  | true =>
    exfalso
    rw [sealedB_iff, hu] at hb
    by_cases h60 : i < 60
    · rw [List.drop_set_of_lt h60, ← hs] at hb
      have hc : crcStr ((t.data.toList.take 60).set i b) = crcStr (t.data.toList.take 60) := by rw [← List.take_set]; exact bytes_of hb
      have hi60 : i < (t.data.toList.take 60).length := by simp; omega
      have := crcStr_set _ i hi60 b hc
      rw [List.getElem_take] at this
      exact hne this
    · rw [List.take_set_of_le (by omega), hs, List.drop_set, if_neg (by omega), List.take_set] at hb
      have hi4 : i - 60 < ((t.data.toList.drop 60).take 4).length := by simp; omega
      have := set_same _ (i - 60) hi4 b hb
      rw [List.getElem_take, List.getElem_drop] at this
      apply hne
      rw [← this]
      congr 1
      omega
end Go.Proofs.YtpkdkkjdlhillaaDoor.crc
