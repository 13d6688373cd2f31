/-
  The drawn image of halves: a text that is not long; nothing that was there is written.
-/
import Derived.Test.YteafgnggmpjdmaaRd4
import Derived.Test.YteafgnggmpjdmaaSeal
namespace Go.Proofs.Yteafgnggmpjdmaa.rd
open Go.RowKit
open wmath

set_option maxHeartbeats 1000000 in
theorem draw_half (w : World) (a : Option Addr) (len cap : Nat) (hs : len ≤ 1048576) (hc : RdCode w w.heap.size a len) :
    Calls Try.prog 18 #[.slice a len cap] w fun e w' => ∃ (s : ByteArray) (n : Int), e = .returned (.tuple #[.string s, .int .i64 n]) ∧ s.size ≤ 1000 ∧ Below w.heap.size w w' := by
  have HC : Hid (RdCode w w.heap.size a len) := hc
  clear hc
  go_enter Try.func18, Try.ntmps18
  go_wp2_with fail
  refine (open_any _ a len cap hs HC.out).mono ?_
  rintro e w1 ⟨rfl, hr1, hb1⟩
  have HR1 : Hid (Rd w1 w.heap.size a len cap) := hr1
  have HB1 : Hid (Below w.heap.size w w1) := hb1
  clear hr1 hb1
  go_wp2_with fail
  refine (below_pos _ _ a len cap HR1.out 5 (by omega) (by omega)).mono ?_
  rintro e w2 ⟨v, rfl, hv, hr2, hb2⟩
  have HR2 : Hid (Rd w2 w.heap.size a len cap) := hr2
  have HB2 : Hid (Below w.heap.size w w2) := below_of HB1.out hb2 (Nat.le_refl _) HB1.out.size
  clear hr2 hb2
  go_wp2
  go_loopw [5, 6] (fun o i wr => ∃ (j : Nat) (st : ByteArray), i = .int .i64 j ∧ o = .string st ∧ j ≤ 4 ∧ st.size + 64 * j ≤ 256 ∧ Rd wr w.heap.size a len cap ∧ Below w.heap.size w wr) (fun _ i _ => (intOf i).toNat)
  case atStart => exact ⟨v, ⟨#[]⟩, rfl, rfl, by omega, by show 0 + 64 * v ≤ 256; omega, HR2.out, HB2.out⟩
  case round =>
    obtain ⟨j, st, rfl, rfl, hj4, hsz, hr, hb⟩ := hrel
    have HRr : Hid (Rd wr w.heap.size a len cap) := hr
    have HBr : Hid (Below w.heap.size w wr) := hb
    clear hr hb
    by_cases hj : 0 < j
    · go_wp2_with fail
      refine (bytes_any _ _ a len cap HRr.out 3 (by omega) (by omega)).mono ?_
      rintro e w3 ⟨t, rfl, ht, hr3, hb3⟩
      have HR3 : Hid (Rd w3 w.heap.size a len cap) := hr3
      have HB3 : Hid (Below w.heap.size w w3) := below_of HBr.out hb3 (Nat.le_refl _) HBr.out.size
      clear hr3 hb3
      go_wp2_with fail
      refine (crc.spec_sealed t _ (by omega)).mono ?_
      rintro e w4 ⟨rfl, hb4⟩
      have HR4 : Hid (Rd w4 w.heap.size a len cap) := HR3.out.later hb4
      have HB4 : Hid (Below w.heap.size w w4) := HB3.out.trans (hb4.mono HB3.out.size)
      have hz := crc.sealedStr_size t (by omega)
      generalize crc.sealedStr t = u at hz
      have hsum : st.size + u.size ≤ 256 := by omega
      clear hb4
      go_wp2
      go_roundw
      case rel => exact ⟨j - 1, st ++ u, by go_num, rfl, by omega, by rw [ByteArray.size_append]; omega, HR4.out, HB4.out⟩
      case measure => simp [intOf]; omega
    · obtain rfl : j = 0 := by omega
      go_wp2_with fail
      refine (bytes_any _ _ a len cap HRr.out 40 (by omega) (by omega)).mono ?_
      rintro e w3 ⟨t, rfl, ht, hr3, hb3⟩
      have HR3 : Hid (Rd w3 w.heap.size a len cap) := hr3
      have HB3 : Hid (Below w.heap.size w w3) := below_of HBr.out hb3 (Nat.le_refl _) HBr.out.size
      have hsum : st.size + t.size ≤ 296 := by omega
      clear hr3 hb3
      go_wp2_with fail
      refine (off_any _ _ a len cap HR3.out 0 _ (by omega) (by omega) (by omega)).mono ?_
      rintro e w4 ⟨n, rfl, hn, hr4, hb4⟩
      have HB4 : Hid (Below w.heap.size w w4) := below_of HB3.out hb4 (Nat.le_refl _) HB3.out.size
      clear hr4 hb4 hn
      go_wp2
      go_ret2
      exact ⟨st ++ t, n, rfl, by rw [ByteArray.size_append]; omega, HB4.out⟩
end Go.Proofs.Yteafgnggmpjdmaa.rd
