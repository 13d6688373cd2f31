/-
  The draws of chapter 1's words: what each drawn text and number is, and that nothing that was there is written.
-/
import Derived.Test.YteafgnggmpjdmaaRd3
import Derived.Test.YteafgnggmpjdmaaWb
namespace Go.Proofs.Yteafgnggmpjdmaa.rd
open Go.RowKit
open wmath wb

theorem draw_read_word (w : World) (a : Option Addr) (len cap : Nat) (hs : len ≤ 1048576) (hc : RdCode w w.heap.size a len) :
    Calls Try.prog 10 #[.slice a len cap] w fun e w' => ∃ s : ByteArray, e = .returned (.string s) ∧ s.size ≤ 9 ∧ Below w.heap.size w w' := by
  have HC : Hid (RdCode w w.heap.size a len) := hc
  clear hc
  go_enter Try.func10, Try.ntmps10
  go_wp2_with fail
  refine (open_any _ a len cap hs HC.out).mono ?_
  rintro e w1 ⟨rfl, hr1, hb1⟩
  have HR1 : Hid (Rd w1 w.heap.size a len cap) := hr1
  clear hr1
  go_wp2_with fail
  refine (odd_any _ _ a len cap HR1.out).mono ?_
  rintro e w2 ⟨n, rfl, hn, hr2, hb2⟩
  have HR2 : Hid (Rd w2 w.heap.size a len cap) := hr2
  have HB2 : Hid (Below w.heap.size w w2) := below_of hb1 hb2 (Nat.le_refl _) hb1.size
  clear hr2 hn hb1 hb2
  go_wp2_with fail
  refine (spec_word n _).mono ?_
  rintro e w3 ⟨rfl, hb3⟩
  have HR3 : Hid (Rd w3 w.heap.size a len cap) := HR2.out.later hb3
  have HB3 : Hid (Below w.heap.size w w3) := HB2.out.trans (hb3.mono HB2.out.size)
  have hz := wordStr_size (IntKind.u64.wrap n)
  generalize wordStr (IntKind.u64.wrap n) = s at hz
  have hz8 : s.size ≤ 8 := by omega
  clear hb3 hz
  go_wp2_with fail
  refine (once_any _ _ a len cap HR3.out 4 (by omega) (by omega)).mono ?_
  rintro e w4 ⟨v, rfl, hr4, hb4⟩
  have HR4 : Hid (Rd w4 w.heap.size a len cap) := hr4
  have HB4 : Hid (Below w.heap.size w w4) := below_of HB3.out hb4 (Nat.le_refl _) HB3.out.size
  clear hr4 hb4
  cases v
  · go_wp2
    go_ret
    exact ⟨s, rfl, by omega, HB4.out⟩
  · go_wp2_with fail
    refine (hurt_any _ _ a len cap HR4.out s (by omega)).mono ?_
    rintro e w5 ⟨t, rfl, ht, hr5, hb5⟩
    clear hr5
    go_wp2
    go_ret
    exact ⟨t, rfl, by omega, below_of HB4.out hb5 (Nat.le_refl _) HB4.out.size⟩

theorem draw_short (w : World) (a : Option Addr) (len cap : Nat) (hs : len ≤ 1048576) (hc : RdCode w w.heap.size a len) :
    Calls Try.prog 11 #[.slice a len cap] w fun e w' => ∃ n : Int, e = .returned (.int .i64 n) ∧ (Lit.int .i64 n).wf = true ∧ Below w.heap.size w w' := by
  have HC : Hid (RdCode w w.heap.size a len) := hc
  clear hc
  go_enter Try.func11, Try.ntmps11
  go_wp2_with fail
  refine (open_any _ a len cap hs HC.out).mono ?_
  rintro e w1 ⟨rfl, hr1, hb1⟩
  have HR1 : Hid (Rd w1 w.heap.size a len cap) := hr1
  clear hr1
  go_wp2_with fail
  refine (off_any _ _ a len cap HR1.out 0 65535 (by omega) (by omega) (by omega)).mono ?_
  rintro e w2 ⟨n, rfl, hn, hr2, hb2⟩
  have HN : Hid ((Lit.int .i64 n).wf = true) := hn
  clear hr2 hn
  go_wp2
  go_ret
  exact ⟨n, rfl, HN.out, below_of hb1 hb2 (Nat.le_refl _) hb1.size⟩

theorem draw_read_short (w : World) (a : Option Addr) (len cap : Nat) (hs : len ≤ 1048576) (hc : RdCode w w.heap.size a len) :
    Calls Try.prog 12 #[.slice a len cap] w fun e w' => ∃ s : ByteArray, e = .returned (.string s) ∧ s.size ≤ 9 ∧ Below w.heap.size w w' := by
  have HC : Hid (RdCode w w.heap.size a len) := hc
  clear hc
  go_enter Try.func12, Try.ntmps12
  go_wp2_with fail
  refine (open_any _ a len cap hs HC.out).mono ?_
  rintro e w1 ⟨rfl, hr1, hb1⟩
  have HR1 : Hid (Rd w1 w.heap.size a len cap) := hr1
  clear hr1
  go_wp2_with fail
  refine (below_pos _ _ a len cap HR1.out 65536 (by omega) (by omega)).mono ?_
  rintro e w2 ⟨n, rfl, hn, hr2, hb2⟩
  have HR2 : Hid (Rd w2 w.heap.size a len cap) := hr2
  have HB2 : Hid (Below w.heap.size w w2) := below_of hb1 hb2 (Nat.le_refl _) hb1.size
  clear hr2 hb1 hb2
  go_wp2_with fail
  refine (spec_short_in n _ (by omega) (by omega)).mono ?_
  rintro e w3 ⟨rfl, hb3⟩
  have HR3 : Hid (Rd w3 w.heap.size a len cap) := HR2.out.later hb3
  have HB3 : Hid (Below w.heap.size w w3) := HB2.out.trans (hb3.mono HB2.out.size)
  have hz : (shortStr (n : Int)).size ≤ 8 := by show (2 : Nat) ≤ 8; omega
  generalize shortStr (n : Int) = s at hz
  clear hb3
  go_wp2_with fail
  refine (once_any _ _ a len cap HR3.out 4 (by omega) (by omega)).mono ?_
  rintro e w4 ⟨v, rfl, hr4, hb4⟩
  have HR4 : Hid (Rd w4 w.heap.size a len cap) := hr4
  have HB4 : Hid (Below w.heap.size w w4) := below_of HB3.out hb4 (Nat.le_refl _) HB3.out.size
  clear hr4 hb4
  cases v
  · go_wp2
    go_ret
    exact ⟨s, rfl, by omega, HB4.out⟩
  · go_wp2_with fail
    refine (hurt_any _ _ a len cap HR4.out s (by omega)).mono ?_
    rintro e w5 ⟨t, rfl, ht, hr5, hb5⟩
    clear hr5
    go_wp2
    go_ret
    exact ⟨t, rfl, by omega, below_of HB4.out hb5 (Nat.le_refl _) HB4.out.size⟩
end Go.Proofs.Yteafgnggmpjdmaa.rd
