/-
  The specification's sum: at every text that is not too long the four bytes of the sum of its bytes; nothing that was there is written.
-/
import Derived.Test.YtpkdkkjdlhillaaDoorConv
import Derived.Test.YtpkdkkjdlhillaaDoorCrcMath
import Derived.WalkSpells
import Derived.Handy
import Derived.Laws.BitsAllLaws
namespace Go.Proofs.YtpkdkkjdlhillaaDoor.crc
open Go.RowKit
open conv

theorem take_snoc (s : ByteArray) (k : Nat) (h : k < s.size) : s.data.toList.take (k + 1) = s.data.toList.take k ++ [s[k]] := by
  rw [List.take_succ_eq_append_getElem (by simpa using h)]; rfl
theorem ret_str {a b : ByteArray} (h : a = b) : Ending.returned (.string a) = .returned (.string b) := by rw [h]
theorem u32_byte (c : UInt8) : ((c.toNat : Int) % 4294967296) = (c.toNat : Int) := by have := c.toNat_lt; omega

set_option maxHeartbeats 1000000 in
theorem l1Crc_any (s : ByteArray) (w : World) (hs : s.size ≤ 1048576) :
    Calls Tryd.prog 61 #[.string s] w fun e w' => e = .returned (.string (crcStr s.data.toList)) ∧ Below w.heap.size w w' := by
  have hcv := conv44
  go_enter Tryd.func61, Tryd.ntmps61
  go_wp2
  go_loop [3, 4, 5] (fun c i _ => ∃ k : Nat, k ≤ s.size ∧ i = .int .i64 k ∧ c = .int .u32 (crcSt (s.data.toList.take k))) (fun _ i _ => s.size - (intOf i).toNat)
  case atStart => exact ⟨0, Nat.zero_le _, rfl, rfl⟩
  case round =>
    obtain ⟨k, hk, rfl, rfl⟩ := hrel
    have hm := crcSt_lt (s.data.toList.take k)
    by_cases hlt : k < s.size
    · have HN : Hid (crcSt (s.data.toList.take (k + 1)) = stepN 8 (crcSt (s.data.toList.take k) ^^^ s[k].toNat)) := by
        rw [take_snoc s k hlt, crcSt_snoc]; exact rfl
      generalize crcSt (s.data.toList.take k) = m at hm HN ⊢
      have hc := s[k].toNat_lt
      have hx0 : bits BinOp.xor IntKind.u32 (m : Int) (s[k].toNat : Int) = ((m ^^^ s[k].toNat : Nat) : Int) := u32_xor_nat m _ hm (by omega)
      have hlx : m ^^^ s[k].toNat < 4294967296 := xor_lt hm (by omega)
      generalize m ^^^ s[k].toNat = x0 at hx0 hlx HN
      go_wp2
      go_loop [3, 5] (fun c i => ∃ j : Nat, j ≤ 8 ∧ i = .int .i64 j ∧ c = .int .u32 (stepN j x0)) (fun _ i => 8 - (intOf i).toNat)
      case atStart => exact ⟨0, by omega, rfl, rfl⟩
      case round =>
        obtain ⟨j, hj, rfl, rfl⟩ := hrel
        have hx := stepN_lt j hlx
        by_cases hj8 : j < 8
        · have HS : Hid (stepN (j + 1) x0 = if stepN j x0 % 2 = 1 then (stepN j x0 / 2) ^^^ 3988292384 else stepN j x0 / 2) := rfl
          generalize stepN j x0 = x at hx HS ⊢
          by_cases hodd : x % 2 = 1
          · have ho : ((x : Int) % 2 == 1) = true := by simp; omega
            have hxx : bits BinOp.xor IntKind.u32 ((x : Int) / 2) 3988292384 = (((x / 2) ^^^ 3988292384 : Nat) : Int) := by
              have := u32_xor_nat (x / 2) 3988292384 (by omega) (by omega)
              simpa using this
            go_wp2
            refine ⟨⟨j + 1, by omega, by go_num, ?_⟩, by simp [intOf]; omega⟩
            rw [HS.out, if_pos hodd]
          · have ho : ((x : Int) % 2 == 1) = false := by simp; omega
            go_wp2
            refine ⟨⟨j + 1, by omega, by go_num, ?_⟩, by simp [intOf]; omega⟩
            rw [HS.out, if_neg hodd]
            first | rfl | (simp; done)
        · have h8 : j = 8 := by omega
          subst h8
          have HX : Hid (stepN 8 x0 = stepN 8 x0) := rfl
          go_wp2
          refine ⟨⟨k + 1, by omega, by go_num, ?_⟩, by simp [intOf]; omega⟩
          rw [HN.out]
    · have he : s.data.toList.take k = s.data.toList := List.take_of_length_le (by simp; omega)
      rw [he]
      rw [he] at hm
      have HF : Hid (crcStr s.data.toList = fourStr ((4294967295 ^^^ crcSt s.data.toList : Nat) : Int)) := rfl
      clear he
      generalize crcSt s.data.toList = m at hm HF ⊢
      have hmx : bits BinOp.xor IntKind.u32 IntKind.u32.max (m : Int) = ((4294967295 ^^^ m : Nat) : Int) := u32_xor_nat 4294967295 m (by omega) hm
      go_wp2
      go_ret
      refine ⟨?_, by go_grown⟩
      rw [HF.out]
      rfl
end Go.Proofs.YtpkdkkjdlhillaaDoor.crc
