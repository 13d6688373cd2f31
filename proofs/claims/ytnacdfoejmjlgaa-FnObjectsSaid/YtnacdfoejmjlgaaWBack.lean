/-
  Texts of eight and of two bytes are the bytes of the number that they make.
-/
import Derived.Test.YtnacdfoejmjlgaaWb
namespace Go.Proofs.Ytnacdfoejmjlgaa.wb
open Go.RowKit
open wmath

theorem list2 (l : List UInt8) (h : l.length = 2) : ∃ a b, l = [a, b] := by
  match l, h with
  | [a, b], _ => exact ⟨a, b, rfl⟩
theorem list8 (l : List UInt8) (h : l.length = 8) : ∃ a b c d e f g i, l = [a, b, c, d, e, f, g, i] := by
  match l, h with
  | [a, b, c, d, e, f, g, i], _ => exact ⟨a, b, c, d, e, f, g, i, rfl⟩
theorem bytes_of {s t : ByteArray} (h : s.data.toList = t.data.toList) : s = t := by
  obtain ⟨⟨l⟩⟩ := s
  obtain ⟨⟨m⟩⟩ := t
  simp at h
  rw [h]
theorem byte_back (c : UInt8) (n : Int) (h : n = (c.toNat : Int)) : UInt8.ofNat n.toNat = c := by
  subst h
  simp

theorem shortStr_back (s : ByteArray) (hs : s.size = 2) : shortStr (num s.data.toList) = s := by
  apply bytes_of
  obtain ⟨a, b, hl⟩ := list2 s.data.toList (by simpa using hs)
  rw [hl]
  have ha := a.toNat_lt
  have hb := b.toNat_lt
  have hn : (num [a, b] : Int) = (a.toNat : Int) * 256 + (b.toNat : Int) := by simp [num]
  rw [hn]
  show [UInt8.ofNat _, UInt8.ofNat _] = _
  rw [byte_back a _ (by omega), byte_back b _ (by omega)]

theorem wordStr_back (s : ByteArray) (hs : s.size = 8) : wordStr (num s.data.toList) = s := by
  apply bytes_of
  obtain ⟨a, b, c, d, e, f, g, i, hl⟩ := list8 s.data.toList (by simpa using hs)
  rw [hl]
  have ha := a.toNat_lt
  have hb := b.toNat_lt
  have hc := c.toNat_lt
  have hd := d.toNat_lt
  have he := e.toNat_lt
  have hf := f.toNat_lt
  have hg := g.toNat_lt
  have hi := i.toNat_lt
  have hn : (num [a, b, c, d, e, f, g, i] : Int) = (((((((a.toNat : Int) * 256 + (b.toNat : Int)) * 256 + (c.toNat : Int)) * 256 + (d.toNat : Int)) * 256 + (e.toNat : Int)) * 256 + (f.toNat : Int)) * 256 + (g.toNat : Int)) * 256 + (i.toNat : Int) := by simp [num]
  rw [hn]
  show [UInt8.ofNat _, UInt8.ofNat _, UInt8.ofNat _, UInt8.ofNat _, UInt8.ofNat _, UInt8.ofNat _, UInt8.ofNat _, UInt8.ofNat _] = _
  rw [byte_back a _ (by omega), byte_back b _ (by omega), byte_back c _ (by omega), byte_back d _ (by omega), byte_back e _ (by omega), byte_back f _ (by omega), byte_back g _ (by omega), byte_back i _ (by omega)]
theorem wrap_back (m : Nat) (h : m < 18446744073709551616) : IntKind.u64.wrap (wrap64 m) = m := by
  rw [IntKind.wrap_u64]; unfold wrap64; omega
theorem back_wrap (n : Int) (h0 : -9223372036854775808 ≤ n) (h1 : n ≤ 9223372036854775807) : wrap64 (IntKind.u64.wrap n) = n := by
  rw [IntKind.wrap_u64]; unfold wrap64; omega
end Go.Proofs.Ytnacdfoejmjlgaa.wb
