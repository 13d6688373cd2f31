/-
  A record's line, by the program and by the specification; nothing that was there is written.
-/
import Derived.Test.YtpkdkkjdlhillaaDoorEpoch
import Derived.Deep.RegionHeld
import Derived.Deep.RegionHeld3
namespace Go.Proofs.YtpkdkkjdlhillaaDoor.crc
open Go.RowKit
open wmath wb num

def byteStr (n : Int) : ByteArray := strOfNums [n % 256]
def recOk (e s h : Int) (old : ByteArray) : Bool := (decide (0 ≤ e) && decide (e ≤ 999999999)) && (decide (0 ≤ s) && decide (s ≤ 31)) && (decide (0 ≤ h) && decide (h ≤ 255)) && ((old.size : Int) == 32)
def recBody (e s h : Int) (old : ByteArray) : ByteArray := (⟨#[85]⟩ : ByteArray) ++ byteStr s ++ shortStr h ++ wordStr e ++ old
def recStr (e s h : Int) (old : ByteArray) : ByteArray := if recOk e s h old = true then sealedStr (recBody e s h old) else ⟨#[]⟩
theorem conv1 (w : World) (T : TypeId) (x0 x1 x2 x3 x4 x5 x6 x7 : Int) :
    (convert 22 9 (.slice (some ⟨w.heap.size, 0, none⟩) 1 8)).run Tryd.prog (w.alloc (.cells #[.int .u8 x0, .int .u8 x1, .int .u8 x2, .int .u8 x3, .int .u8 x4, .int .u8 x5, .int .u8 x6, .int .u8 x7] T)) = .ok (.string (strOfNums [x0])) (w.alloc (.cells #[.int .u8 x0, .int .u8 x1, .int .u8 x2, .int .u8 x3, .int .u8 x4, .int .u8 x5, .int .u8 x6, .int .u8 x7] T)) := by
  simpa using wb.conv_at w T [x0, x1, x2, x3, x4, x5, x6, x7] 1 8 (by simp)
set_option maxHeartbeats 1000000 in
theorem high1 (n : Int) (w : World) (_h : 0 ≤ n) :
    Calls Tryd.prog 28 #[.int .u64 n, .int .i64 1] w fun e w' => e = .returned (.string (byteStr n)) ∧ Below w.heap.size w w' := by
  have hcv := conv1
  go_enter Tryd.func28, Tryd.ntmps28
  go_wp2
  go_rounds 2
  go_wp2
  go_ret
  exact ⟨rfl, by go_grown⟩
theorem byteStr_size (n : Int) : (byteStr n).size = 1 := rfl
theorem shortStr_size (n : Int) : (shortStr n).size = 2 := rfl
theorem recBody_size (e s h : Int) (old : ByteArray) (ho : old.size = 32) : (recBody e s h old).size = 44 := by
  unfold recBody
  rw [ByteArray.size_append, ByteArray.size_append, ByteArray.size_append, ByteArray.size_append, byteStr_size, shortStr_size, wordStr_size, ho]
  rfl
theorem recOk_in {e s h : Int} {old : ByteArray} (hr : recOk e s h old = true) : (0 ≤ e ∧ e ≤ 999999999) ∧ (0 ≤ s ∧ s ≤ 31) ∧ (0 ≤ h ∧ h ≤ 255) ∧ old.size = 32 := by
  unfold recOk at hr
  simp at hr
  omega
theorem cell_after {X w2 : World} {g : Nat} {v : Value} (hc : X.cell? ⟨g, 0, none⟩ = some v) (hb : Below X.heap.size X w2) : w2.cell? ⟨g, 0, none⟩ = some v := by
  rw [hb.cell (p := ⟨g, 0, none⟩) (World.block_lt_of_cell? X _ hc)]; exact hc
theorem conv_cell {w : World} {g : Nat} {x : Int} (hc : w.cell? ⟨g, 0, none⟩ = some (.int .u8 x)) : (convert 22 9 (.slice (some ⟨g, 0, none⟩) 1 1)).run Tryd.prog w = .ok (.string (strOfNums [x])) w := by
  refine run_convert_bytes_arg (P := Tryd.prog) w 22 5 Tryd.underlying22 Tryd.underlying5 g 0 1 1 [x] rfl ?_ 9 Tryd.underlying9
  intro i hi
  obtain rfl : i = 0 := by omega
  simpa using hc
theorem cell_new (Y : World) (x : Int) (T : TypeId) : (Y.alloc (.cells #[.int .u8 x] T)).cell? ⟨Y.heap.size, 0, none⟩ = some (.int .u8 x) := by rw [World.cell?_alloc_new]; rfl
theorem cell_new_drew (Y : World) (x : Int) (T : TypeId) : (Y.alloc (.cells #[.int .u8 x] T)).drew.cell? ⟨Y.heap.size, 0, none⟩ = some (.int .u8 x) := cell_new Y x T
end Go.Proofs.YtpkdkkjdlhillaaDoor.crc
