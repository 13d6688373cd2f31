/-
  FreeOf, FindRun and Gaps by the program; nothing that was there is written.
-/
import Derived.Test.YtpagpadpgfcknaaGaps2
import Derived.Test.YtpagpadpgfcknaaGapMath
namespace Go.Proofs.Ytpagpadpgfcknaa.lb
open Go.RowKit
open ints

theorem yes_nat {m : ByteArray} {a b : Int} (h : (mapOk m && rangeB a b) = true) : ∃ A N : Nat, a = (A : Int) ∧ b = ((A + N : Nat) : Int) ∧ A + N ≤ 128 ∧ mapOk m = true ∧ (b - a).toNat = N ∧ a.toNat = A := by
  rw [Bool.and_eq_true] at h
  obtain ⟨A, N, rfl, rfl, h1⟩ := rangeB_nat h.2
  exact ⟨A, N, rfl, rfl, h1, h.1, by omega, by omega⟩
theorem gapsOfM_sum (m : ByteArray) (a b : Int) : sumLen (gapsOfM m a b) ≤ 128 ∧ (gapsOfM m a b).length ≤ 128 ∧ ∀ s ∈ gapsOfM m a b, s.1 + s.2 ≤ 128 := by
  cases h : mapOk m && rangeB a b with
  | false =>
    have e : gapsOfM m a b = [] := by rw [gapsOfM, h]; rfl
    rw [e]
    exact ⟨by simp [sumLen], by simp, fun s h => by simp at h⟩
  | true =>
    obtain ⟨A, N, rfl, rfl, h1, hm, e1, e2⟩ := yes_nat h
    have e : gapsOfM m (A : Int) ((A + N : Nat) : Int) = gapsK m.data.toList A N := by rw [gapsOfM, h, if_pos rfl, e1, e2]
    rw [e, sum_gaps]
    have h2 := freeN_le m.data.toList A N
    have h3 := (gapsK_known m.data.toList A N).1
    exact ⟨by omega, by omega, fun s hs => by have := gapsK_len m.data.toList A N s hs; omega⟩
end Go.Proofs.Ytpagpadpgfcknaa.lb
