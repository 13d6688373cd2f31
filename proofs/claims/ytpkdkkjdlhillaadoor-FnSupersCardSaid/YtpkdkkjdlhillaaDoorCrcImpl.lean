/-
  The program's sum: at every text of at most 20000 bytes the four bytes of the sum of its bytes, at a longer one nothing; nothing that was there is written.
-/
import Derived.Test.YtpkdkkjdlhillaaDoorCrcSpec
namespace Go.Proofs.YtpkdkkjdlhillaaDoor.crc
open Go.RowKit
open conv

/-- The program's table lies in the first block. -/
def TabAt (w : World) : Prop := ∀ i : Nat, i < 16 → w.cell? ⟨0, i, none⟩ = some (.int .u32 (tab i))

set_option maxHeartbeats 1000000 in
theorem high4 (n : Int) (w : World) (_h : 0 ≤ n) :
    Calls Tryd.prog 28 #[.int .u64 n, .int .i64 4] w fun e w' => e = .returned (.string (fourStr n)) ∧ Below w.heap.size w w' := by
  have hcv := conv48
  go_enter Tryd.func28, Tryd.ntmps28
  go_wp2
  go_rounds 5
  go_wp2
  go_ret
  exact ⟨rfl, by go_grown⟩

theorem impl_long (s : ByteArray) (w : World) (hs : 20000 < s.size) :
    Calls Tryd.prog 57 #[.string s] w fun e w' => e = .returned (.string ⟨#[]⟩) ∧ w = w' := by
  have h : (20000 : Int) < (s.size : Int) := by omega
  go_enter Tryd.func57, Tryd.ntmps57
  go_wp2
  go_ret
  exact ⟨rfl, rfl⟩

set_option maxHeartbeats 1000000 in
theorem impl_crc (s : ByteArray) (w : World) (hs : s.size ≤ 20000) (ht : TabAt w) :
    Calls Tryd.prog 57 #[.string s] w fun e w' => e = .returned (.string (crcStr s.data.toList)) ∧ Below w.heap.size w w' := by
  have HT : Hid (TabAt w) := ht
  clear ht
  have hns : ¬ (20000 : Int) < (s.size : Int) := by omega
  go_enter Tryd.func57, Tryd.ntmps57
  go_wp2
  go_loop [3, 10] (fun c i => ∃ k : Nat, k ≤ s.size ∧ i = .int .i64 k ∧ c = .int .u32 (crcSt (s.data.toList.take k))) (fun _ i => s.size - (intOf i).toNat)
  case atStart => exact ⟨0, Nat.zero_le _, rfl, rfl⟩
  case round =>
    obtain ⟨k, hk, rfl, rfl⟩ := hrel
    have hm := crcSt_lt (s.data.toList.take k)
    by_cases hlt : k < s.size
    · have hN : crcSt (s.data.toList.take (k + 1)) = byteStep (crcSt (s.data.toList.take k)) s[k] := by
        rw [take_snoc s k hlt, crcSt_snoc]
      rw [byteStep_nib] at hN
      generalize crcSt (s.data.toList.take k) = m at hm hN ⊢
      have hc := s[k].toNat_lt
      have hx0 : bits BinOp.xor IntKind.u32 (m : Int) (s[k].toNat : Int) = ((m ^^^ s[k].toNat : Nat) : Int) := u32_xor_nat m _ hm (by omega)
      have hl0 : m ^^^ s[k].toNat < 4294967296 := xor_lt hm (by omega)
      generalize m ^^^ s[k].toNat = c0 at hx0 hl0 hN
      have ha0 : bits BinOp.and IntKind.u32 (c0 : Int) 15 = ((c0 % 16 : Nat) : Int) := by
        rw [show (15 : Int) = ((15 : Nat) : Int) from rfl, u32_and_nat c0 15 hl0 (by omega), Nat.and_two_pow_sub_one_eq_mod c0 4]
      have hi0 : c0 % 16 < 16 := Nat.mod_lt _ (by omega)
      have hc0 := HT.out _ hi0
      have ht0 := tab_lt (c0 % 16)
      generalize c0 % 16 = i0 at ha0 hi0 hc0 hN ht0
      generalize tab i0 = t0 at hc0 hN ht0
      have hx1 : bits BinOp.xor IntKind.u32 ((c0 : Int) / 16) (t0 : Int) = (((c0 / 16) ^^^ t0 : Nat) : Int) := by
        have := u32_xor_nat (c0 / 16) t0 (by omega) ht0
        simpa using this
      have hl1 : (c0 / 16) ^^^ t0 < 4294967296 := xor_lt (by omega) ht0
      generalize (c0 / 16) ^^^ t0 = c1 at hx1 hl1 hN
      have ha1 : bits BinOp.and IntKind.u32 (c1 : Int) 15 = ((c1 % 16 : Nat) : Int) := by
        rw [show (15 : Int) = ((15 : Nat) : Int) from rfl, u32_and_nat c1 15 hl1 (by omega), Nat.and_two_pow_sub_one_eq_mod c1 4]
      have hi1 : c1 % 16 < 16 := Nat.mod_lt _ (by omega)
      have hc1 := HT.out _ hi1
      have ht1 := tab_lt (c1 % 16)
      generalize c1 % 16 = i1 at ha1 hi1 hc1 hN ht1
      generalize tab i1 = t1 at hc1 hN ht1
      have hx2 : bits BinOp.xor IntKind.u32 ((c1 : Int) / 16) (t1 : Int) = (((c1 / 16) ^^^ t1 : Nat) : Int) := by
        have := u32_xor_nat (c1 / 16) t1 (by omega) ht1
        simpa using this
      have HN : Hid (crcSt (s.data.toList.take (k + 1)) = (c1 / 16) ^^^ t1) := hN
      clear hN
      go_wp2
      refine ⟨⟨k + 1, by omega, by go_num, ?_⟩, by simp [intOf]; omega⟩
      rw [HN.out]
    · have he : s.data.toList.take k = s.data.toList := List.take_of_length_le (by simp; omega)
      rw [he]
      rw [he] at hm
      have HF : Hid (crcStr s.data.toList = fourStr ((4294967295 ^^^ crcSt s.data.toList : Nat) : Int)) := rfl
      clear he
      generalize crcSt s.data.toList = m at hm HF ⊢
      have hmx : bits BinOp.xor IntKind.u32 IntKind.u32.max (m : Int) = ((4294967295 ^^^ m : Nat) : Int) := u32_xor_nat 4294967295 m (by omega) hm
      have hl : 4294967295 ^^^ m < 4294967296 := xor_lt (by omega) hm
      generalize 4294967295 ^^^ m = x at hmx hl HF
      have hwx : IntKind.u64.wrap (x : Int) = (x : Int) := by rw [IntKind.wrap_u64]; omega
      go_wp2_with fail
      refine (high4 _ _ (by omega)).mono ?_
      rintro e w1 ⟨rfl, hb⟩
      go_wp2
      go_ret
      refine ⟨?_, hb⟩
      rw [HF.out]
      rfl
end Go.Proofs.YtpkdkkjdlhillaaDoor.crc
