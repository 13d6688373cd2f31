/-
  TakeRun and GiveRun, by the program and by the specification; nothing that was there is written.
-/
import Derived.Test.YtpagpadpgfcknaaBits4
namespace Go.Proofs.Ytpagpadpgfcknaa.lb
open Go.RowKit

theorem in_any (w : World) (x lo hi : Int) :
    Calls Try.prog 27 #[.int .i64 x, .int .i64 lo, .int .i64 hi] w fun e w' => e = .returned (.bool (decide (lo ≤ x) && decide (x ≤ hi))) ∧ w = w' := by
  by_cases h : lo ≤ x
  · have hd : decide (lo ≤ x) = true := by simpa using h
    rw [hd]
    go_enter Try.func27, Try.ntmps27
    go_wp2
    go_ret
    exact ⟨by simp, rfl⟩
  · have hd : decide (lo ≤ x) = false := by simpa using h
    rw [hd]
    go_enter Try.func27, Try.ntmps27
    go_wp2
    go_ret
    exact ⟨rfl, rfl⟩
/-- n lines from a on. -/
def runOkB (a n : Int) : Bool := (decide (1 ≤ n) && decide (n ≤ 128)) && (decide (0 ≤ a) && decide (a ≤ 128 - n))
theorem runOkB_nat {a n : Int} (h : runOkB a n = true) : ∃ A N : Nat, a = (A : Int) ∧ n = (N : Int) ∧ A + N ≤ 128 ∧ 1 ≤ N := by
  unfold runOkB at h
  simp at h
  exact ⟨a.toNat, n.toNat, by omega, by omega, by omega, by omega⟩
/-- What is taken, and what is given. -/
def turned (m : ByteArray) (a n : Int) : ByteArray := ⟨(turnK m.data.toList a.toNat n.toNat).toArray⟩
def takeOk (m : ByteArray) (a n : Int) : Bool := (mapOk m && runOkB a n) && freeK m.data.toList a.toNat n.toNat
def giveOk (m : ByteArray) (a n : Int) : Bool := (mapOk m && runOkB a n) && fullK m.data.toList a.toNat n.toNat
def outOf (b : Bool) (m : ByteArray) (a n : Int) : ByteArray := if b = true then turned m a n else ⟨#[]⟩
theorem mapOk_size {m : ByteArray} (h : mapOk m = true) : m.size = 64 := by
  unfold mapOk at h
  simp at h
  exact h.1
def arrOf (m : ByteArray) : List UInt8 := if m.size = 64 then m.data.toList else zeros
theorem arrOf_length (m : ByteArray) : (arrOf m).length = 64 := by
  unfold arrOf
  split
  · simpa using ‹m.size = 64›
  · exact zeros_length
theorem readMap_any (m : ByteArray) (w : World) :
    Calls Try.prog 25 #[.string m] w fun e w' => e = .returned (.tuple #[.agg (cs (arrOf m)), .bool (mapOk m)]) ∧ Below w.heap.size w w' := by
  by_cases h : m.size = 64
  · have := readMap_yes m h w
    rw [arrOf, if_pos h]; exact this
  · have hno : mapOk m = false := by rw [mapOk, decide_eq_false h]; rfl
    rw [arrOf, if_neg h, hno]; exact readMap_no m h w
end Go.Proofs.Ytpagpadpgfcknaa.lb
