/-
  The program's Half at every text and number; the world stays.
-/
import Derived.Test.YteafgnggmpjdmaaRows
import Derived.WalkKit
import Derived.WalkSpells
namespace Go.Proofs.Yteafgnggmpjdmaa.half
open Go.RowKit
theorem half_in (s : ByteArray) (n : Nat) (w : World) (hs : s.size ≤ 1048576) (h : 32 * n + 32 ≤ s.size) :
    Calls Try.prog 19 #[.string s, .int .i64 (n : Int)] w fun e w' => e = .returned (.string (s.extract (n * 32) ((n + 1) * 32))) ∧ w = w' := by
  have h1 : ¬ (n : Int) < 0 := by omega
  have h2 : ¬ (s.size : Int) / 32 ≤ (n : Int) := by omega
  have h3 : 32 * (n : Int) + 32 ≤ (s.size : Int) := by omega
  go_enter Try.func19, Try.ntmps19
  go_wp2
  go_ret
  exact ⟨rfl, rfl⟩
theorem half_out (s : ByteArray) (n : Int) (w : World) (hs : s.size ≤ 1048576) (h : n < 0 ∨ (s.size : Int) / 32 ≤ n) :
    Calls Try.prog 19 #[.string s, .int .i64 n] w fun e w' => e = .returned (.string ⟨#[]⟩) ∧ w = w' := by
  by_cases hn : n < 0
  · go_enter Try.func19, Try.ntmps19
    go_wp2
    go_ret
    exact ⟨rfl, rfl⟩
  · have h2 : (s.size : Int) / 32 ≤ n := by omega
    go_enter Try.func19, Try.ntmps19
    go_wp2
    go_ret
    exact ⟨rfl, rfl⟩
end Go.Proofs.Yteafgnggmpjdmaa.half
