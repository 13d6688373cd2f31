/-
  Bytes in a block that was just laid, told as a text.
-/
import Derived.Test.YthjfgibflbbgmaaRows
import Derived.WalkKit
import Derived.Laws.BytesArg
import Derived.Below
namespace Go.Proofs.Ythjfgibflbbgmaa.conv
open Go.RowKit
theorem conv_at (w : World) (T : TypeId) (xs : List Int) (len cap : Nat) (h : len ≤ xs.length) :
    (convert 45 9 (.slice (some ⟨w.heap.size, 0, none⟩) len cap)).run Try.prog (w.alloc (.cells (xs.map (Value.int .u8)).toArray T)) = .ok (.string (strOfNums (xs.take len))) (w.alloc (.cells (xs.map (Value.int .u8)).toArray T)) := by
  refine run_convert_bytes_arg (P := Try.prog) _ 45 5 Try.underlying45 Try.underlying5 w.heap.size 0 len cap (xs.take len) (by simp; omega) ?_ 9 Try.underlying9
  intro i hi
  have hx : i < xs.length := by omega
  rw [World.cell?_alloc_new]
  simp [hi, List.getElem?_eq_getElem hx]
theorem conv44 (w : World) (T : TypeId) (x0 x1 x2 x3 : Int) :
    (convert 45 9 (.slice (some ⟨w.heap.size, 0, none⟩) 4 4)).run Try.prog (w.alloc (.cells #[.int .u8 x0, .int .u8 x1, .int .u8 x2, .int .u8 x3] T)) = .ok (.string (strOfNums [x0, x1, x2, x3])) (w.alloc (.cells #[.int .u8 x0, .int .u8 x1, .int .u8 x2, .int .u8 x3] T)) := by
  simpa using conv_at w T [x0, x1, x2, x3] 4 4 (by simp)
theorem conv48 (w : World) (T : TypeId) (x0 x1 x2 x3 x4 x5 x6 x7 : Int) :
    (convert 45 9 (.slice (some ⟨w.heap.size, 0, none⟩) 4 8)).run Try.prog (w.alloc (.cells #[.int .u8 x0, .int .u8 x1, .int .u8 x2, .int .u8 x3, .int .u8 x4, .int .u8 x5, .int .u8 x6, .int .u8 x7] T)) = .ok (.string (strOfNums [x0, x1, x2, x3])) (w.alloc (.cells #[.int .u8 x0, .int .u8 x1, .int .u8 x2, .int .u8 x3, .int .u8 x4, .int .u8 x5, .int .u8 x6, .int .u8 x7] T)) := by
  simpa using conv_at w T [x0, x1, x2, x3, x4, x5, x6, x7] 4 8 (by simp)
end Go.Proofs.Ythjfgibflbbgmaa.conv
