/-
  Noughts as a text, by the specification.
-/
import Derived.Test.YtjdlphebnhkghaaConv
import Derived.Deep.OwnRows
import Derived.Below
namespace Go.Proofs.Ytjdlphebnhkghaa.zeros
open Go.RowKit
open conv

theorem made_zero (n : Nat) : madeCells #[Value.int .u8 0] n = ((List.replicate n (0 : Int)).map (Value.int .u8)).toArray := by
  apply Array.ext
  · simp [madeCells]
  · intro i h1 h2
    simp [madeCells, Nat.mod_one]
theorem info8 : (Try.prog.info? 5).map (fun i => (i.zero, i.size, i.bytes)) = some (some (.int .u8 0), 1, 1) := by kernel_rfl
theorem make_zero (n : Nat) (h : n ≤ 1048576) (w : World) : (Instr.makeSlice 28 (.int .i64 (n : Int)) (.int .i64 (n : Int))).run Try.prog w = .ok (.slice (some ⟨w.heap.size, 0, none⟩) n n) (w.alloc (.cells (madeCells #[Value.int .u8 0] n) 5)) :=
  run_make_row' 28 5 (.int .u8 0) 1 Try.underlying28 info8 rfl .i64 .i64 n (by omega) (by omega) w
theorem conv_zero (n : Nat) (w : World) (T : TypeId) : (convert 28 9 (.slice (some ⟨w.heap.size, 0, none⟩) n n)).run Try.prog (w.alloc (.cells (madeCells #[Value.int .u8 0] n) T)) = .ok (.string (strOfNums (List.replicate n 0))) (w.alloc (.cells (madeCells #[Value.int .u8 0] n) T)) := by
  rw [made_zero]
  have h := conv_at w T (List.replicate n 0) n n (by simp)
  rw [List.take_of_length_le (by simp)] at h
  exact h
theorem zeros_text (n : Nat) (h : n ≤ 1048576) : ∃ z : ByteArray, z.size = n ∧ ∀ w, Calls Try.prog 37 #[.int .i64 (n : Int)] w fun e w' => e = .returned (.string z) ∧ Below w.heap.size w w' := by
  refine ⟨strOfNums (List.replicate n 0), by rw [strOfNums_size]; simp, fun w => ?_⟩
  have hmk := make_zero n h
  have hcv := conv_zero n
  go_enter Try.func37, Try.ntmps37
  go_wp2
  go_ret
  exact ⟨rfl, (Below.refl _ _).alloc (Nat.le_refl _) _⟩
end Go.Proofs.Ytjdlphebnhkghaa.zeros
