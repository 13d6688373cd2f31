/-
  The program's numberOf over a text of at most eight bytes gives the number that these bytes make, the highest first; the world stays.
-/
import Derived.Test.YtjdlphebnhkghaaRows
import Derived.Test.YtjdlphebnhkghaaWMath
import Derived.WalkKit
import Derived.WalkSpells
namespace Go.Proofs.Ytjdlphebnhkghaa.num
open Go.RowKit
open wmath
set_option maxHeartbeats 400000 in
theorem numberOf_any (s : ByteArray) (w : World) (hs : s.size ≤ 8) :
    Calls Try.prog 46 #[.string s] w fun e w' => e = .returned (.int .u64 (num s.data.toList)) ∧ w' = w := by
  go_enter Try.func46, Try.ntmps46
  go_wp2
  go_loop [3, 7] (fun n i => ∃ k : Nat, k ≤ s.size ∧ i = .int .i64 k ∧ n = .int .u64 (num (s.data.toList.take k))) (fun _ i => s.size - (intOf i).toNat)
  case atStart => exact ⟨0, Nat.zero_le _, rfl, rfl⟩
  case round =>
    obtain ⟨k, hk, rfl, rfl⟩ := hrel
    by_cases hlt : k < s.size
    · have hm : num (s.data.toList.take k) < 72057594037927936 :=
        Nat.lt_of_lt_of_le (num_take_lt s k) (Nat.le_trans (Nat.pow_le_pow_right (by decide) (show k ≤ 7 by omega)) (by decide))
      have HN : Hid (num (s.data.toList.take (k + 1)) = num (s.data.toList.take k) * 256 + s[k].toNat) := num_take s k hlt
      generalize num (s.data.toList.take k) = m at hm HN ⊢
      go_wp2
      refine ⟨⟨k + 1, by omega, by go_num, ?_⟩, by simp [intOf]; omega⟩
      rw [HN.out, shl_or m _ hm s[k].toNat_lt]
    · go_wp2
      go_ret
      exact ⟨ret_int (by rw [List.take_of_length_le (by simp; omega)]), rfl⟩
end Go.Proofs.Ytjdlphebnhkghaa.num
