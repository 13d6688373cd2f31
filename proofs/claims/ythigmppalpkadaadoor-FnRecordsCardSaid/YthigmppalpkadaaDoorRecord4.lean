/-
  Both readers of a record's line answer the same; a record is equal to itself.
-/
import Derived.Test.YthigmppalpkadaaDoorRecord3
namespace Go.Proofs.YthigmppalpkadaaDoor.crc
open Go.RowKit
open wmath wb num

theorem readrec_both (s : ByteArray) (hm : s.size ≤ 1048576) :
    ∃ (n1 n2 n3 : Int) (o : ByteArray) (b : Bool), (∀ w, Calls Tryd.prog 25 #[.string s] w fun x w' => x = .returned (.tuple #[.agg #[.int .i64 n1, .int .i64 n2, .int .i64 n3, .string o], .bool b]) ∧ Below w.heap.size w w')
      ∧ ∀ w, TabAt w → 0 < w.heap.size → Calls Tryd.prog 24 #[.string s] w fun x w' => x = .returned (.tuple #[.agg #[.int .i64 n1, .int .i64 n2, .int .i64 n3, .string o], .bool b]) ∧ Below w.heap.size w w' := by
  by_cases hs : s.size = 64
  · have hS := fun w => spec_readrec s w hs
    have hI := fun w h1 h2 => impl_readrec s w hs h1 h2
    cases hb : recB s with
    | true =>
      rw [hb] at hS hI
      exact ⟨_, _, _, _, true, hS, hI⟩
    | false =>
      rw [hb] at hS hI
      exact ⟨_, _, _, _, false, hS, hI⟩
  · exact ⟨_, _, _, _, false, fun w => spec_readrec_no s w hs hm, fun w _ _ => impl_readrec_no s w hs⟩
theorem eqRecord_same (w : World) (n1 n2 n3 : Int) (o : ByteArray) :
    Calls Tryd.prog 39 #[.agg #[.int .i64 n1, .int .i64 n2, .int .i64 n3, .string o], .agg #[.int .i64 n1, .int .i64 n2, .int .i64 n3, .string o]] w fun x w' => x = .returned (.bool true) ∧ Below w.heap.size w w' := by
  have h1 : (n1 != n1) = false := by simp
  have h2 : (n2 != n2) = false := by simp
  have h3 : (n3 != n3) = false := by simp
  have h4 : (o.toList == o.toList) = true := by simp
  go_enter Tryd.func39, Tryd.ntmps39
  go_wp2
  go_ret
  exact ⟨rfl, by go_grown⟩
end Go.Proofs.YthigmppalpkadaaDoor.crc
