/-
  What the program's Store returns: the lines with one of them changed, or with one more, in new memory; nothing that was there is written.
-/
import Derived.Test.YtgpmpijaggnocaaStore1
namespace Go.Proofs.Ytgpmpijaggnocaa.dev
open Go.RowKit Go.Maps
open bb later

/-- A store may be made there. -/
def Fits (safe : ByteArray) (at_ n : Int) : Prop := 1 ≤ n ∧ n ≤ 64 ∧ 0 ≤ at_ ∧ at_ / 64 < ((safe.size / 64 : Nat) : Int) ∧ at_ % 64 + n ≤ 64
set_option maxHeartbeats 1000000 in
theorem inOne_yes (w : World) (safe : ByteArray) (v : Value) (at_ n : Int) (hs : safe.size ≤ 1048576) (h : Fits safe at_ n) :
    Calls Try.prog 37 #[.agg #[.string safe, v], .int .i64 at_, .int .i64 n] w fun e w' => e = .returned (.bool true) ∧ Below w.heap.size w w' := by
  obtain ⟨h1, h2, h3, h4, h5⟩ := h
  have hb0 : Below w.heap.size w (w.alloc (.cells #[.string safe, v] 26)) := by go_grown
  have HC : Hid (∀ w, Calls _ _ _ w _) := fun w => hasLine_any w safe v (at_ / 64) hs
  rw [show (decide (0 ≤ at_ / 64) && decide (at_ / 64 < ((safe.size / 64 : Nat) : Int))) = true by simp; omega] at HC
  obtain ⟨m, rfl⟩ := Int.eq_ofNat_of_zero_le h3
  have hu : (m : Int) ≤ 1048576 := by omega
  have d5 : decide ((m : Int) % 64 + n ≤ 64) = true := by simpa using h5
  clear h4 h5
  go_enter Try.func37, Try.ntmps37
  go_wp2_with fail
  refine (HC.out _).mono ?_
  rintro e w2 ⟨rfl, hb2⟩
  go_wp2
  go_ret
  exact ⟨rfl, hb0.trans (hb2.mono hb0.size)⟩
set_option maxHeartbeats 1000000 in
theorem inOne_no (w : World) (safe : ByteArray) (v : Value) (at_ n : Int) (hs : safe.size ≤ 1048576) (hn : n ≤ 1048576) (hat : at_ < 9223372036854775808) (h : ¬ Fits safe at_ n) :
    Calls Try.prog 37 #[.agg #[.string safe, v], .int .i64 at_, .int .i64 n] w fun e w' => e = .returned (.bool false) ∧ Below w.heap.size w w' := by
  have hb0 : Below w.heap.size w (w.alloc (.cells #[.string safe, v] 26)) := by go_grown
  by_cases h1 : 1 ≤ n
  · by_cases h2 : n ≤ 64
    · by_cases h3 : 0 ≤ at_
      · have HC : Hid (∀ w, Calls _ _ _ w _) := fun w => hasLine_any w safe v (at_ / 64) hs
        obtain ⟨m, rfl⟩ := Int.eq_ofNat_of_zero_le h3
        by_cases h4 : (m : Int) / 64 < ((safe.size / 64 : Nat) : Int)
        · rw [show (decide (0 ≤ (m : Int) / 64) && decide ((m : Int) / 64 < ((safe.size / 64 : Nat) : Int))) = true by simp; omega] at HC
          have h5 : ¬ (m : Int) % 64 + n ≤ 64 := fun q => h ⟨h1, h2, h3, h4, q⟩
          have d5 : decide ((m : Int) % 64 + n ≤ 64) = false := by simpa using h5
          have hu : (m : Int) ≤ 1048576 := by omega
          clear h4 h5 hat h
          go_enter Try.func37, Try.ntmps37
          go_wp2_with fail
          refine (HC.out _).mono ?_
          rintro e w2 ⟨rfl, hb2⟩
          go_wp2
          go_ret
          exact ⟨rfl, hb0.trans (hb2.mono hb0.size)⟩
        · rw [show (decide (0 ≤ (m : Int) / 64) && decide ((m : Int) / 64 < ((safe.size / 64 : Nat) : Int))) = false by simp; omega] at HC
          have hw : wrap64 ((m : Int) / 64) = (m : Int) / 64 := by unfold wrap64; omega
          clear h4 hat h
          go_enter Try.func37, Try.ntmps37
          go_wp2_with fail
          refine (HC.out _).mono ?_
          rintro e w2 ⟨rfl, hb2⟩
          go_wp2
          go_ret
          exact ⟨rfl, hb0.trans (hb2.mono hb0.size)⟩
      · clear hat h
        go_enter Try.func37, Try.ntmps37
        go_wp2
        go_ret
        exact ⟨rfl, hb0⟩
    · clear hat h
      go_enter Try.func37, Try.ntmps37
      go_wp2
      go_ret
      exact ⟨rfl, hb0⟩
  · clear hat h
    go_enter Try.func37, Try.ntmps37
    go_wp2
    go_ret
    exact ⟨rfl, hb0⟩
end Go.Proofs.Ytgpmpijaggnocaa.dev
