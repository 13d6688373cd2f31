/-
  The draws of epochs and of their lines; what is read of a line, whatever it is.
-/
import Derived.Test.YtnghhfdbibbpcabDoorRd3
import Derived.Test.YtnghhfdbibbpcabDoorEpoch
namespace Go.Proofs.YtnghhfdbibbpcabDoor.crc
open Go.RowKit
open wmath wb num rd

theorem draw_epoch (w : World) (a : Option Addr) (len cap : Nat) (hs : len ≤ 1048576) (hc : RdCode w w.heap.size a len) :
    Calls Tryd.prog 16 #[.slice a len cap] w fun e w' => ∃ n : Int, e = .returned (.int .i64 n) ∧ Below w.heap.size w w' := by
  have HC : Hid (RdCode w w.heap.size a len) := hc
  clear hc
  go_enter Tryd.func16, Tryd.ntmps16
  go_wp2_with fail
  refine (open_any _ a len cap hs HC.out).mono ?_
  rintro e w1 ⟨rfl, hr1, hb1⟩
  have HR1 : Hid (Rd w1 w.heap.size a len cap) := hr1
  clear hr1
  go_wp2_with fail
  refine (off_any _ _ a len cap HR1.out 0 1000000000 (by omega) (by omega) (by omega)).mono ?_
  rintro e w2 ⟨n, rfl, hn, hr2, hb2⟩
  clear hr2 hn
  go_wp2
  go_ret
  exact ⟨n, rfl, below_of hb1 hb2 (Nat.le_refl _) hb1.size⟩
set_option maxHeartbeats 1000000 in
theorem draw_read_epoch (w : World) (a : Option Addr) (len cap : Nat) (hs : len ≤ 1048576) (hc : RdCode w w.heap.size a len) :
    Calls Tryd.prog 17 #[.slice a len cap] w fun e w' => ∃ t : ByteArray, e = .returned (.string t) ∧ t.size ≤ 1000 ∧ Below w.heap.size w w' := by
  have HC : Hid (RdCode w w.heap.size a len) := hc
  clear hc
  go_enter Tryd.func17, Tryd.ntmps17
  go_wp2_with fail
  refine (open_any _ a len cap hs HC.out).mono ?_
  rintro e w1 ⟨rfl, hr1, hb1⟩
  have HR1 : Hid (Rd w1 w.heap.size a len cap) := hr1
  have HB1 : Hid (Below w.heap.size w w1) := hb1
  clear hr1 hb1
  go_wp2_with fail
  refine (off_any _ _ a len cap HR1.out 0 1000000000 (by omega) (by omega) (by omega)).mono ?_
  rintro e w2 ⟨n, rfl, hn, hr2, hb2⟩
  have HR2 : Hid (Rd w2 w.heap.size a len cap) := hr2
  have HB2 : Hid (Below w.heap.size w w2) := below_of HB1.out hb2 (Nat.le_refl _) HB1.out.size
  clear hr2 hn hb2
  go_wp2_with fail
  refine (spec_word n w2).mono ?_
  rintro e w3 ⟨rfl, hb3⟩
  have HR3 : Hid (Rd w3 w.heap.size a len cap) := HR2.out.later hb3
  have HB3 : Hid (Below w.heap.size w w3) := HB2.out.trans (hb3.mono HB2.out.size)
  have hz8 := wordStr_size (IntKind.u64.wrap n)
  have HSD : Hid (∀ w, Calls _ _ _ w _) := fun w => spec_sealed (wordStr (IntKind.u64.wrap n)) w (by omega)
  have hz64 := sealedStr_size (wordStr (IntKind.u64.wrap n)) (by omega)
  generalize sealedStr (wordStr (IntKind.u64.wrap n)) = s at HSD hz64
  generalize wordStr (IntKind.u64.wrap n) = t at HSD hz8 ⊢
  clear hb3
  go_wp2_with fail
  refine (HSD.out w3).mono ?_
  rintro e w4 ⟨rfl, hb4⟩
  have HR4 : Hid (Rd w4 w.heap.size a len cap) := HR3.out.later hb4
  have HB4 : Hid (Below w.heap.size w w4) := HB3.out.trans (hb4.mono HB3.out.size)
  clear hb4
  go_wp2_with fail
  refine (once_any _ _ a len cap HR4.out 4 (by omega) (by omega)).mono ?_
  rintro e w5 ⟨b, rfl, hr5, hb5⟩
  have HR5 : Hid (Rd w5 w.heap.size a len cap) := hr5
  have HB5 : Hid (Below w.heap.size w w5) := below_of HB4.out hb5 (Nat.le_refl _) HB4.out.size
  clear hr5 hb5
  cases b with
  | true =>
    go_wp2_with fail
    refine (hurt_any _ _ a len cap HR5.out s (by omega)).mono ?_
    rintro e w6 ⟨u, rfl, hu, hr6, hb6⟩
    have HB6 : Hid (Below w.heap.size w w6) := below_of HB5.out hb6 (Nat.le_refl _) HB5.out.size
    clear hr6 hb6
    go_wp2
    go_ret
    exact ⟨u, rfl, by omega, HB6.out⟩
  | false =>
    go_wp2_with fail
    refine (once_any _ _ a len cap HR5.out 8 (by omega) (by omega)).mono ?_
    rintro e w6 ⟨c, rfl, hr6, hb6⟩
    have HB6 : Hid (Below w.heap.size w w6) := below_of HB5.out hb6 (Nat.le_refl _) HB5.out.size
    clear hr6 hb6
    cases c with
    | false =>
      go_wp2
      go_ret
      exact ⟨s, rfl, by omega, HB6.out⟩
    | true =>
      have h8 : (8 : Int) ≤ (s.size : Int) := by omega
      have hx8 : (s.extract 0 8).size = 8 := by rw [ByteArray.size_extract]; omega
      have hu1 : (ByteArray.mk #[120]).size = 1 := rfl
      have hsum : (s.extract 0 8).size + (ByteArray.mk #[120]).size ≤ 1000 := by rw [hx8, hu1]; decide
      obtain ⟨v, hv⟩ : ∃ v, v = s.extract 0 8 ++ ByteArray.mk #[120] := ⟨_, rfl⟩
      have hle9 : v.size ≤ 60 := by rw [hv, ByteArray.size_append, hx8, hu1]; decide
      have HS2 : Hid (∀ w, Calls _ _ _ w _) := fun w => spec_sealed v w hle9
      have hz9 := sealedStr_size v hle9
      have HV : Hid (v = s.extract 0 8 ++ ByteArray.mk #[120]) := hv
      clear hv
      go_wp2_with fail
      rw [← HV.out]
      refine (HS2.out _).mono ?_
      rintro e w7 ⟨rfl, hb7⟩
      have HB7 : Hid (Below w.heap.size w w7) := HB6.out.trans (hb7.mono HB6.out.size)
      clear hb7
      go_wp2
      go_ret
      exact ⟨_, rfl, by rw [hz9]; decide, HB7.out⟩

def readB (t : ByteArray) : Bool := decide (t.size = 64) && epochB t
def readN (t : ByteArray) : Int := if t.size = 64 then epochOf t else 0
theorem spec_read_any (t : ByteArray) (w : World) (hm : t.size ≤ 1048576) :
    Calls Tryd.prog 19 #[.string t] w fun x w' => x = .returned (.tuple #[.int .i64 (readN t), .bool (readB t)]) ∧ Below w.heap.size w w' := by
  by_cases h : t.size = 64
  · have e1 : readN t = epochOf t := by unfold readN; rw [if_pos h]
    have e2 : readB t = epochB t := by unfold readB; rw [decide_eq_true h, Bool.true_and]
    rw [e1, e2]; exact spec_read_epoch t w h
  · have e1 : readN t = 0 := by unfold readN; rw [if_neg h]
    have e2 : readB t = false := by unfold readB; rw [decide_eq_false h, Bool.false_and]
    rw [e1, e2]; exact spec_read_epoch_no t w h hm
theorem impl_read_any (t : ByteArray) (w : World) (ht : TabAt w) (h0 : 0 < w.heap.size) :
    Calls Tryd.prog 18 #[.string t] w fun x w' => x = .returned (.tuple #[.int .i64 (readN t), .bool (readB t)]) ∧ Below w.heap.size w w' := by
  by_cases h : t.size = 64
  · have e1 : readN t = epochOf t := by unfold readN; rw [if_pos h]
    have e2 : readB t = epochB t := by unfold readB; rw [decide_eq_true h, Bool.true_and]
    rw [e1, e2]; exact impl_read_epoch t w h ht h0
  · have e1 : readN t = 0 := by unfold readN; rw [if_neg h]
    have e2 : readB t = false := by unfold readB; rw [decide_eq_false h, Bool.false_and]
    rw [e1, e2]; exact impl_read_epoch_no t w h
/-- What is read, written again, is the line. -/
theorem read_back {t : ByteArray} (h : readB t = true) : epochStr (readN t) = t := by
  unfold readB at h
  simp at h
  obtain ⟨h1, h2⟩ := h
  unfold readN epochOf
  rw [if_pos h1, if_pos h2]
  unfold epochB at h2
  have h3 : (epochStr (epochAt t)).toList = t.toList := by simpa using h2
  rw [toList_data, toList_data] at h3
  exact bytes_of h3
theorem epoch_at {e : Int} (h : 0 ≤ e ∧ e ≤ 1000000000) : epochAt (epochStr e) = e := by
  unfold epochAt
  have h1 : epochStr e = sealedStr (wordStr e) := by unfold epochStr; rw [if_pos h]
  have h2 : (sealedStr (wordStr e)).extract 0 8 = wordStr e := by
    have h3 := sealed_head (wordStr e) (word8 e)
    have h4 := padded_front (wordStr e)
    rw [wordStr_size] at h4
    rw [← cut_cut, h3]
    exact h4
  rw [h1, h2]
  have hn := num_wordStr e h.1 (by omega)
  rw [hn]
  unfold wrap64
  omega
theorem epoch_size {e : Int} (h : 0 ≤ e ∧ e ≤ 1000000000) : (epochStr e).size = 64 := by
  unfold epochStr
  rw [if_pos h]
  exact sealedStr_size _ (word8 e)
theorem back_in {e : Int} (h : 0 ≤ e ∧ e ≤ 1000000000) : readB (epochStr e) = true ∧ readN (epochStr e) = e := by
  have h1 := epoch_at h
  have h2 := epoch_size h
  have h3 : epochB (epochStr e) = true := by
    unfold epochB
    rw [h1]
    simp
  refine ⟨?_, ?_⟩
  · unfold readB; rw [decide_eq_true h2, h3]; rfl
  · unfold readN epochOf; rw [if_pos h2, if_pos h3, h1]
theorem back_out {e : Int} (h : ¬ (0 ≤ e ∧ e ≤ 1000000000)) : readB (epochStr e) = false := by
  have h1 : epochStr e = ⟨#[]⟩ := by unfold epochStr; rw [if_neg h]
  rw [h1]
  rfl
theorem epoch_inj {e f : Int} (h : 0 ≤ e ∧ e ≤ 1000000000) (hne : e ≠ f) : ((epochStr f).toList == (epochStr e).toList) = false := by
  cases hc : ((epochStr f).toList == (epochStr e).toList) with
  | false => rfl
  | true =>
    exfalso
    have h3 : (epochStr f).toList = (epochStr e).toList := by simpa using hc
    rw [toList_data, toList_data] at h3
    have h4 : epochStr f = epochStr e := bytes_of h3
    have h5 := epoch_size h
    have hf : 0 ≤ f ∧ f ≤ 1000000000 := by
      cases Classical.em (0 ≤ f ∧ f ≤ 1000000000) with
      | inl q => exact q
      | inr q =>
        have : epochStr f = ⟨#[]⟩ := by unfold epochStr; rw [if_neg q]
        rw [← h4, this] at h5
        cases h5
    have h6 := epoch_at h
    have h7 := epoch_at hf
    rw [h4, h6] at h7
    exact hne h7
end Go.Proofs.YtnghhfdbibbpcabDoor.crc
