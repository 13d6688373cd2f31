/-
  The program's ReadWord and ReadShort at every text: the number of its bytes where it has eight or two of them, else 0 and false; the world stays.
-/
import Derived.Test.YteafgnggmpjdmaaNum
import Derived.BigQuiet
import Derived.Deep.QuietTactic
namespace Go.Proofs.Yteafgnggmpjdmaa.num
open Go.RowKit
open wmath
set_option maxHeartbeats 400000 in
theorem read_word (s : ByteArray) (w : World) (hs : s.size = 8) :
    Calls Try.prog 13 #[.string s] w fun e w' => e = .returned (.tuple #[.int .i64 (wrap64 (num s.data.toList)), .bool true]) ∧ w = w' := by
  have hc := numberOf_any s w (by omega)
  generalize num s.data.toList = m at hc ⊢
  have h2 : ((s.size : Int) != 8) = false := by simp; omega
  go_enter Try.func13, Try.ntmps13
  go_wp2_with fail
  refine hc.mono ?_
  rintro e w' ⟨rfl, rfl⟩
  go_wp2
  go_ret2
  exact ⟨rfl, rfl⟩
theorem read_word_no (s : ByteArray) (w : World) (hs : s.size ≠ 8) (_hm : s.size ≤ 1048577) :
    Calls Try.prog 13 #[.string s] w fun e w' => e = .returned (.tuple #[.int .i64 0, .bool false]) ∧ w = w' := by
  have h2 : ((s.size : Int) != 8) = true := by simp; omega
  go_enter Try.func13, Try.ntmps13
  go_wp2
  go_ret2
  exact ⟨rfl, rfl⟩
set_option maxHeartbeats 400000 in
theorem read_short (s : ByteArray) (w : World) (hs : s.size = 2) :
    Calls Try.prog 15 #[.string s] w fun e w' => e = .returned (.tuple #[.int .i64 (num s.data.toList), .bool true]) ∧ w = w' := by
  have hn := num_lt s.data.toList
  have hl : s.data.toList.length = 2 := by simpa using hs
  rw [hl] at hn
  have hb : num s.data.toList < 65536 := by simpa using hn
  clear hn hl
  have hc := numberOf_any s w (by omega)
  generalize num s.data.toList = m at hb hc ⊢
  have h2 : ((s.size : Int) != 2) = false := by simp; omega
  go_enter Try.func15, Try.ntmps15
  go_wp2_with fail
  refine hc.mono ?_
  rintro e w' ⟨rfl, rfl⟩
  go_wp2
  go_ret2
  exact ⟨rfl, rfl⟩
theorem read_short_no (s : ByteArray) (w : World) (hs : s.size ≠ 2) (_hm : s.size ≤ 1048577) :
    Calls Try.prog 15 #[.string s] w fun e w' => e = .returned (.tuple #[.int .i64 0, .bool false]) ∧ w = w' := by
  have h2 : ((s.size : Int) != 2) = true := by simp; omega
  go_enter Try.func15, Try.ntmps15
  go_wp2
  go_ret2
  exact ⟨rfl, rfl⟩
end Go.Proofs.Yteafgnggmpjdmaa.num
