/-
  The eight bytes of a word and the two of a short one: what the specification's and the program's WordBytes and ShortBytes return, as one text function of the number; nothing that was there is written.
-/
import Derived.Test.YtjdlphebnhkghaaRows
import Derived.Test.YtjdlphebnhkghaaWMath
import Derived.WalkKit
import Derived.WalkSpells
import Derived.Handy
import Derived.Laws.BytesArg
import Derived.Below
namespace Go.Proofs.Ytjdlphebnhkghaa.wb
open Go.RowKit
open wmath

/-- The eight bytes of a number, the highest first. -/
def wordStr (n : Int) : ByteArray := strOfNums [n / 72057594037927936 % 256, n / 281474976710656 % 256, n / 1099511627776 % 256, n / 4294967296 % 256, n / 16777216 % 256, n / 65536 % 256, n / 256 % 256, n % 256]
/-- The two lowest bytes of a number, the highest first. -/
def shortStr (n : Int) : ByteArray := strOfNums [n / 256 % 256, n % 256]

theorem wordStr_cut (n : Int) : (wordStr n).extract 6 8 = shortStr n := rfl

theorem toList_data (s : ByteArray) : s.toList = s.data.toList := ByteArray.toList_eq s
theorem byte_nat (n : Int) (_h : 0 ≤ n) : ((UInt8.ofNat (n % 256).toNat).toNat : Int) = n % 256 := by
  rw [UInt8.toNat_ofNat']; omega
/-- The bytes of a word make its number. -/
theorem num_wordStr (n : Int) (h0 : 0 ≤ n) (h1 : n < 18446744073709551616) : (num (wordStr n).data.toList : Int) = n := by
  have e : (wordStr n).data.toList = [UInt8.ofNat (n / 72057594037927936 % 256).toNat, UInt8.ofNat (n / 281474976710656 % 256).toNat, UInt8.ofNat (n / 1099511627776 % 256).toNat, UInt8.ofNat (n / 4294967296 % 256).toNat, UInt8.ofNat (n / 16777216 % 256).toNat, UInt8.ofNat (n / 65536 % 256).toNat, UInt8.ofNat (n / 256 % 256).toNat, UInt8.ofNat (n % 256).toNat] := rfl
  rw [e]
  simp only [num, List.foldl_cons, List.foldl_nil]
  have b0 := byte_nat (n / 72057594037927936) (by omega)
  have b1 := byte_nat (n / 281474976710656) (by omega)
  have b2 := byte_nat (n / 1099511627776) (by omega)
  have b3 := byte_nat (n / 4294967296) (by omega)
  have b4 := byte_nat (n / 16777216) (by omega)
  have b5 := byte_nat (n / 65536) (by omega)
  have b6 := byte_nat (n / 256) (by omega)
  have b7 := byte_nat n h0
  omega
theorem num_shortStr (n : Int) (h0 : 0 ≤ n) (h1 : n ≤ 65535) : (num (shortStr n).data.toList : Int) = n := by
  have e : (shortStr n).data.toList = [UInt8.ofNat (n / 256 % 256).toNat, UInt8.ofNat (n % 256).toNat] := rfl
  rw [e]
  simp only [num, List.foldl_cons, List.foldl_nil]
  have b6 := byte_nat (n / 256) (by omega)
  have b7 := byte_nat n h0
  omega
theorem word_less (a b : Int) (ha : 0 ≤ a) (ha1 : a < 18446744073709551616) (hb : 0 ≤ b) (hb1 : b < 18446744073709551616) :
    Op.bytesLess (wordStr a).toList (wordStr b).toList = decide (a < b) := by
  have e : ∀ s : ByteArray, s.toList = s.data.toList := toList_data
  have na := num_wordStr a ha ha1
  have nb := num_wordStr b hb hb1
  rw [e, e, less_num (wordStr a).data.toList (wordStr b).data.toList rfl]
  by_cases h : a < b
  · rw [decide_eq_true h, decide_eq_true (by omega)]
  · rw [decide_eq_false h, decide_eq_false (by omega)]

theorem mk8 (w : World) : (Instr.makeSlice 28 (.int .i64 8) (.int .i64 8)).run Try.prog w = .ok (.slice (some ⟨w.heap.size, 0, none⟩) 8 8) (w.alloc (.cells #[.int .u8 0, .int .u8 0, .int .u8 0, .int .u8 0, .int .u8 0, .int .u8 0, .int .u8 0, .int .u8 0] 5)) := by kernel_rfl

theorem conv_at (w : World) (T : TypeId) (xs : List Int) (len cap : Nat) (h : len ≤ xs.length) :
    (convert 28 9 (.slice (some ⟨w.heap.size, 0, none⟩) len cap)).run Try.prog (w.alloc (.cells (xs.map (Value.int .u8)).toArray T)) = .ok (.string (strOfNums (xs.take len))) (w.alloc (.cells (xs.map (Value.int .u8)).toArray T)) := by
  refine run_convert_bytes_arg (P := Try.prog) _ 28 5 Try.underlying28 Try.underlying5 w.heap.size 0 len cap (xs.take len) (by simp; omega) ?_ 9 Try.underlying9
  intro i hi
  have hx : i < xs.length := by omega
  rw [World.cell?_alloc_new]
  simp [hi, List.getElem?_eq_getElem hx]

theorem conv8 (w : World) (T : TypeId) (x0 x1 x2 x3 x4 x5 x6 x7 : Int) :
    (convert 28 9 (.slice (some ⟨w.heap.size, 0, none⟩) 8 8)).run Try.prog (w.alloc (.cells #[.int .u8 x0, .int .u8 x1, .int .u8 x2, .int .u8 x3, .int .u8 x4, .int .u8 x5, .int .u8 x6, .int .u8 x7] T)) = .ok (.string (strOfNums [x0, x1, x2, x3, x4, x5, x6, x7])) (w.alloc (.cells #[.int .u8 x0, .int .u8 x1, .int .u8 x2, .int .u8 x3, .int .u8 x4, .int .u8 x5, .int .u8 x6, .int .u8 x7] T)) := by
  simpa using conv_at w T [x0, x1, x2, x3, x4, x5, x6, x7] 8 8 (by simp)
theorem conv2 (w : World) (T : TypeId) (x0 x1 x2 x3 x4 x5 x6 x7 : Int) :
    (convert 28 9 (.slice (some ⟨w.heap.size, 0, none⟩) 2 8)).run Try.prog (w.alloc (.cells #[.int .u8 x0, .int .u8 x1, .int .u8 x2, .int .u8 x3, .int .u8 x4, .int .u8 x5, .int .u8 x6, .int .u8 x7] T)) = .ok (.string (strOfNums [x0, x1])) (w.alloc (.cells #[.int .u8 x0, .int .u8 x1, .int .u8 x2, .int .u8 x3, .int .u8 x4, .int .u8 x5, .int .u8 x6, .int .u8 x7] T)) := by
  simpa using conv_at w T [x0, x1, x2, x3, x4, x5, x6, x7] 2 8 (by simp)

set_option maxHeartbeats 1000000 in
theorem spec_word (n : Int) (w : World) :
    Calls Try.prog 28 #[.int .i64 n] w fun e w' => e = .returned (.string (wordStr (IntKind.u64.wrap n))) ∧ Below w.heap.size w w' := by
  have hmk := mk8
  have hcv := conv8
  go_enter Try.func28, Try.ntmps28
  go_wp2
  go_rounds 9
  go_wp2
  go_ret
  exact ⟨rfl, by go_grown⟩

set_option maxHeartbeats 1000000 in
theorem high8 (n : Int) (w : World) (_h : 0 ≤ n) :
    Calls Try.prog 62 #[.int .u64 n, .int .i64 8] w fun e w' => e = .returned (.string (wordStr n)) ∧ Below w.heap.size w w' := by
  have hcv := conv8
  go_enter Try.func62, Try.ntmps62
  go_wp2
  go_rounds 9
  go_wp2
  go_ret
  exact ⟨rfl, by go_grown⟩

set_option maxHeartbeats 1000000 in
theorem high2 (n : Int) (w : World) (_h : 0 ≤ n) :
    Calls Try.prog 62 #[.int .u64 n, .int .i64 2] w fun e w' => e = .returned (.string (shortStr n)) ∧ Below w.heap.size w w' := by
  have hcv := conv2
  go_enter Try.func62, Try.ntmps62
  go_wp2
  go_rounds 3
  go_wp2
  go_ret
  exact ⟨rfl, by go_grown⟩

theorem wrap_nonneg (n : Int) : 0 ≤ IntKind.u64.wrap n := by rw [IntKind.wrap_u64]; omega

theorem impl_word (n : Int) (w : World) :
    Calls Try.prog 33 #[.int .i64 n] w fun e w' => e = .returned (.string (wordStr (IntKind.u64.wrap n))) ∧ Below w.heap.size w w' := by
  have hn := wrap_nonneg n
  go_enter Try.func33, Try.ntmps33
  go_wp2_with fail
  refine (high8 _ _ hn).mono ?_
  rintro e w' ⟨rfl, hb⟩
  go_wp2
  go_ret
  exact ⟨rfl, hb⟩

theorem wordStr_size (n : Int) : (wordStr n).size = 8 := rfl
theorem wrap_in (n : Int) (h0 : 0 ≤ n) (h1 : n ≤ 65535) : IntKind.u64.wrap n = n := by rw [IntKind.wrap_u64]; omega

end Go.Proofs.Ytjdlphebnhkghaa.wb
