/-
  Noughts as a text, and sealed texts: what the specification's Sealed returns; nothing that was there is written.
-/
import Derived.Test.YtpkdkkjdlhillaaDoorCrcSpec
import Derived.Deep.OwnRows
namespace Go.Proofs.YtpkdkkjdlhillaaDoor.crc
open Go.RowKit
open conv

def zeroStr (n : Nat) : ByteArray := strOfNums (List.replicate n 0)
theorem zeroStr_size (n : Nat) : (zeroStr n).size = n := by rw [zeroStr, strOfNums_size]; simp
def padded (s : ByteArray) : ByteArray := s ++ zeroStr (60 - s.size)
def sealedStr (s : ByteArray) : ByteArray := padded s ++ crcStr (padded s).data.toList
theorem padded_size (s : ByteArray) (h : s.size ≤ 60) : (padded s).size = 60 := by
  rw [padded, ByteArray.size_append, zeroStr_size]; omega
theorem sealedStr_size (s : ByteArray) (h : s.size ≤ 60) : (sealedStr s).size = 64 := by
  rw [sealedStr, ByteArray.size_append, padded_size s h, crcStr_size]

theorem made_zero (n : Nat) : madeCells #[Value.int .u8 0] n = ((List.replicate n (0 : Int)).map (Value.int .u8)).toArray := by
  apply Array.ext
  · simp [madeCells]
  · intro i h1 h2
    simp [madeCells, Nat.mod_one]
theorem info8 : (Tryd.prog.info? 5).map (fun i => (i.zero, i.size, i.bytes)) = some (some (.int .u8 0), 1, 1) := by kernel_rfl
theorem make_zero (n : Nat) (h : n ≤ 1048576) (w : World) : (Instr.makeSlice 22 (.int .i64 (n : Int)) (.int .i64 (n : Int))).run Tryd.prog w = .ok (.slice (some ⟨w.heap.size, 0, none⟩) n n) (w.alloc (.cells (madeCells #[Value.int .u8 0] n) 5)) :=
  run_make_row' 22 5 (.int .u8 0) 1 Tryd.underlying22 info8 rfl .i64 .i64 n (by omega) (by omega) w
theorem conv_zero (n : Nat) (w : World) (T : TypeId) : (convert 22 9 (.slice (some ⟨w.heap.size, 0, none⟩) n n)).run Tryd.prog (w.alloc (.cells (madeCells #[Value.int .u8 0] n) T)) = .ok (.string (zeroStr n)) (w.alloc (.cells (madeCells #[Value.int .u8 0] n) T)) := by
  rw [made_zero]
  have h := conv_at w T (List.replicate n 0) n n (by simp)
  rw [List.take_of_length_le (by simp)] at h
  exact h

theorem zeros_any (n : Nat) (h : n ≤ 1048576) (w : World) :
    Calls Tryd.prog 50 #[.int .i64 (n : Int)] w fun e w' => e = .returned (.string (zeroStr n)) ∧ Below w.heap.size w w' := by
  have hmk := make_zero n h
  have hcv := conv_zero n
  go_enter Tryd.func50, Tryd.ntmps50
  go_wp2
  go_ret
  exact ⟨rfl, by go_grown⟩

theorem spec_sealed_long (s : ByteArray) (w : World) (hs : 60 < s.size) :
    Calls Tryd.prog 35 #[.string s] w fun e w' => e = .returned (.string ⟨#[]⟩) ∧ w = w' := by
  have h : (60 : Int) < (s.size : Int) := by omega
  go_enter Tryd.func35, Tryd.ntmps35
  go_wp2
  go_ret
  exact ⟨rfl, rfl⟩
theorem spec_sealed (s : ByteArray) (w : World) (hs : s.size ≤ 60) :
    Calls Tryd.prog 35 #[.string s] w fun e w' => e = .returned (.string (sealedStr s)) ∧ Below w.heap.size w w' := by
  have h : ¬ (60 : Int) < (s.size : Int) := by omega
  have en : (60 - (s.size : Int)) = ((60 - s.size : Nat) : Int) := by omega
  have hz := fun w => zeros_any (60 - s.size) (by omega) w
  have hp := padded_size s hs
  have HE : Hid (sealedStr s = padded s ++ crcStr (padded s).data.toList) := rfl
  have HPD : Hid (padded s = s ++ zeroStr (60 - s.size)) := rfl
  have hzs := zeroStr_size (60 - s.size)
  rw [← en] at hz
  generalize zeroStr (60 - s.size) = z at hz HPD hzs
  have HZ : Hid (∀ w, _) := hz
  have HEN : Hid ((60 - (s.size : Int)) = ((60 - s.size : Nat) : Int)) := en
  clear hz en
  have hsum : s.size + z.size ≤ 60 := by omega
  go_enter Tryd.func35, Tryd.ntmps35
  go_wp2_with fail
  refine (HZ.out _).mono ?_
  rintro e w1 ⟨rfl, hb1⟩
  go_wp2_with fail
  rw [← HPD.out]
  have hcs := crcStr_size (padded s).data.toList
  have HC : Hid (∀ w, _) := fun w => l1Crc_any (padded s) w (by omega)
  generalize crcStr (padded s).data.toList = cr at HC hcs HE
  refine (HC.out _).mono ?_
  rintro e w2 ⟨rfl, hb2⟩
  go_wp2
  go_ret
  refine ⟨?_, hb1.trans (hb2.mono hb1.size)⟩
  rw [HE.out]
  rfl
end Go.Proofs.YtpkdkkjdlhillaaDoor.crc
