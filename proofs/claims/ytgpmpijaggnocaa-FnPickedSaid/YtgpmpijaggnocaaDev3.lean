/-
  Whether a device is right, by the program: it is said true just when it is so; nothing that was there is written.
-/
import Derived.Test.YtgpmpijaggnocaaDev2
namespace Go.Proofs.Ytgpmpijaggnocaa.dev
open Go.RowKit

/-- A line of a right device of so many lines, behind the place of the line ahead of it. -/
def LnOk (n : Int) (prev : Int) (l : Ln) : Prop := prev < l.place ∧ 0 ≤ l.place ∧ l.place < n ∧ l.data.size = 64 ∧ (l.sent.size = 64 ∨ l.sent.size = 0)
def prevOf (ls : List Ln) (k : Nat) : Int := if h : 0 < k ∧ k - 1 < ls.length then (ls[k - 1]'h.2).place else -1
def DevOk (safe : ByteArray) (ls : List Ln) : Prop :=
  safe.size % 64 = 0 ∧ 64 ≤ safe.size ∧ safe.size ≤ 8192 ∧ ∀ k (hk : k < ls.length), LnOk ((safe.size / 64 : Nat) : Int) (prevOf ls k) ls[k]
theorem iff_no {p : Prop} (h : ¬ p) : (false = true ↔ p) := ⟨fun q => (Bool.noConfusion q), fun q => absurd q h⟩
theorem iff_yes {p : Prop} (h : p) : (true = true ↔ p) := ⟨fun _ => h, fun _ => rfl⟩
theorem prevOf_succ (ls : List Ln) (k : Nat) (hk : k < ls.length) : prevOf ls (k + 1) = ls[k].place := by
  unfold prevOf
  rw [dif_pos ⟨by omega, by simpa using hk⟩]
  simp

theorem lineCount_any (w : World) (safe : ByteArray) (v : Value) (hs : safe.size ≤ 1048576) :
    Calls Try.prog 41 #[.agg #[.string safe, v]] w fun e w' => e = .returned (.int .i64 ((safe.size / 64 : Nat) : Int)) ∧ Below w.heap.size w w' := by
  go_enter Try.func41, Try.ntmps41
  go_wp2
  go_ret
  exact ⟨by simp, by go_grown⟩
theorem l2Count_any (w : World) (safe : ByteArray) (v : Value) (hs : safe.size ≤ 1048576) :
    Calls Try.prog 48 #[.agg #[.string safe, v]] w fun e w' => e = .returned (.int .i64 ((safe.size / 64 : Nat) : Int)) ∧ Below w.heap.size w w' := by
  go_enter Try.func48, Try.ntmps48
  go_wp2
  go_ret
  exact ⟨by simp, by go_grown⟩
theorem hasLine_any (w : World) (safe : ByteArray) (v : Value) (line : Int) (hs : safe.size ≤ 1048576) :
    Calls Try.prog 45 #[.agg #[.string safe, v], .int .i64 line] w fun e w' => e = .returned (.bool (decide (0 ≤ line) && decide (line < ((safe.size / 64 : Nat) : Int)))) ∧ Below w.heap.size w w' := by
  have HC : Hid (∀ w, _) := fun w => lineCount_any w safe v hs
  have hb0 : Below w.heap.size w (w.alloc (.cells #[.string safe, v] 26)) := by go_grown
  by_cases h0 : 0 ≤ line
  · have hd : decide (0 ≤ line) = true := by simpa using h0
    rw [hd]
    generalize ((safe.size / 64 : Nat) : Int) = n at HC ⊢
    go_enter Try.func45, Try.ntmps45
    go_wp2_with fail
    refine (HC.out _).mono ?_
    rintro e w2 ⟨rfl, hb2⟩
    go_wp2
    go_ret
    exact ⟨by simp, hb0.trans (hb2.mono hb0.size)⟩
  · have hd : decide (0 ≤ line) = false := by simpa using h0
    rw [hd]
    go_enter Try.func45, Try.ntmps45
    go_wp2
    go_ret
    exact ⟨rfl, hb0⟩
theorem isLine_any (w : World) (l : Ln) (h1 : l.data.size ≤ 1048576) (h2 : l.sent.size ≤ 1048576) :
    Calls Try.prog 46 #[.agg #[.int .i64 l.place, .string l.data, .string l.sent]] w fun e w' => ∃ b : Bool, e = .returned (.bool b) ∧ (b = true ↔ l.data.size = 64 ∧ (l.sent.size = 64 ∨ l.sent.size = 0)) ∧ Below w.heap.size w w' := by
  obtain ⟨p, d, s⟩ := l
  simp only at h1 h2 ⊢
  by_cases hd : d.size = 64
  · have e1 : ((d.size : Int) == 64) = true := by simp; omega
    by_cases hs : s.size = 64
    · have e2 : ((s.size : Int) == 64) = true := by simp; omega
      go_enter Try.func46, Try.ntmps46
      go_wp2
      go_ret
      exact ⟨true, rfl, by simp [hd, hs], by go_grown⟩
    · have e2 : ((s.size : Int) == 64) = false := by simp; omega
      by_cases hz : s.size = 0
      · have e3 : s.toList.isEmpty = true := by
          rw [ByteArray.toList_eq, List.isEmpty_iff_length_eq_zero]; simpa using hz
        go_enter Try.func46, Try.ntmps46
        go_wp2
        go_ret
        exact ⟨true, rfl, by simp [hd, hz], by go_grown⟩
      · have e3 : s.toList.isEmpty = false := by
          rw [ByteArray.toList_eq, ← Bool.not_eq_true, List.isEmpty_iff_length_eq_zero]; simpa using hz
        go_enter Try.func46, Try.ntmps46
        go_wp2
        go_ret
        exact ⟨false, rfl, by simp [hs, hz], by go_grown⟩
  · have e1 : ((d.size : Int) == 64) = false := by simp; omega
    go_enter Try.func46, Try.ntmps46
    go_wp2
    go_ret
    exact ⟨false, rfl, by simp [hd], by go_grown⟩
end Go.Proofs.Ytgpmpijaggnocaa.dev
