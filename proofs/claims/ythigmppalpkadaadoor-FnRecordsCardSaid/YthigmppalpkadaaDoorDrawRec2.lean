/-
  The draws of lines of records; what is read of a line, whatever it is, and a record told back from its own.
-/
import Derived.Test.YthigmppalpkadaaDoorDrawRec
namespace Go.Proofs.YthigmppalpkadaaDoor.crc
open Go.RowKit
open wmath wb num rd

set_option maxHeartbeats 1000000 in
theorem with_any (w : World) (s : ByteArray) (o : Nat) (d : ByteArray) (hs : s.size ≤ 60) (h : o + d.size ≤ s.size) :
    Calls Tryd.prog 50 #[.string s, .int .i64 (o : Int), .string d] w fun e w' => ∃ t : ByteArray, e = .returned (.string t) ∧ t.size ≤ 60 ∧ Below w.heap.size w w' := by
  have h1 : (0 : Int) ≤ (o : Int) := by omega
  have h2 : (o : Int) ≤ (s.size : Int) := by omega
  have h3 : IntKind.i64.wrap ((o : Int) + (d.size : Int)) = (o : Int) + (d.size : Int) := by rw [IntKind.wrap_i64]; omega
  have h4 : (o : Int) + (d.size : Int) ≤ (s.size : Int) := by omega
  have h5 : (0 : Int) ≤ (o : Int) + (d.size : Int) := by omega
  have hz1 : (s.extract 0 o).size = o := by simp; omega
  have hz2 : (s.extract (o + d.size) s.size).size = s.size - (o + d.size) := by simp
  have h6 : (s.extract 0 o).size + d.size ≤ 1048576 := by omega
  have h7 : (s.extract 0 o ++ d).size + (s.extract (o + d.size) s.size).size ≤ 1048576 := by rw [ByteArray.size_append]; omega
  have HZ : Hid ((s.extract 0 o ++ d ++ s.extract (o + d.size) s.size).size ≤ 60) := by
    show (s.extract 0 o ++ d ++ s.extract (o + d.size) s.size).size ≤ 60
    rw [ByteArray.size_append, ByteArray.size_append]; omega
  go_enter Tryd.func50, Tryd.ntmps50
  go_wp2
  go_region
  all_goals
    go_wp2
    go_ret
    exact ⟨_, rfl, HZ.out, by first | exact Below.refl _ _ | exact (Below.refl _ _).drew | go_grown⟩

set_option maxHeartbeats 4000000 in
theorem draw_read_record (w : World) (a : Option Addr) (len cap : Nat) (hs : len ≤ 1048576) (hc : RdCode w w.heap.size a len) :
    Calls Tryd.prog 23 #[.slice a len cap] w fun e w' => ∃ t : ByteArray, e = .returned (.string t) ∧ t.size ≤ 1000 ∧ Below w.heap.size w w' := by
  have HC : Hid (RdCode w w.heap.size a len) := hc
  clear hc
  go_enter Tryd.func23, Tryd.ntmps23
  go_wp2_with fail
  refine (open_any _ a len cap hs HC.out).mono ?_
  rintro x w1 ⟨rfl, hr1, hb1⟩
  have HR1 : Hid (Rd w1 w.heap.size a len cap) := hr1
  have HB1 : Hid (Below w.heap.size w w1) := hb1
  clear hr1 hb1
  go_wp2_with fail
  refine (draw_record _ a len cap hs (HC.out.below HB1.out HB1.out.size)).mono ?_
  rintro x w2 ⟨e, s, h, o, rfl, ho, hb2⟩
  have HR2 : Hid (Rd w2 w.heap.size a len cap) := HR1.out.later hb2
  have HB2 : Hid (Below w.heap.size w w2) := HB1.out.trans (hb2.mono HB1.out.size)
  clear hb2
  have HSR : Hid (∀ w, Calls _ _ _ w _) := fun w => spec_record w e s h o (by omega)
  have hcase : recStr e s h o = ⟨#[]⟩ ∨ (recStr e s h o).size = 64 := by
    unfold recStr
    cases hq : recOk e s h o with
    | false => left; rfl
    | true =>
      right
      obtain ⟨_, _, _, h32⟩ := recOk_in hq
      rw [if_pos rfl]
      exact sealedStr_size _ (by rw [recBody_size _ _ _ _ h32]; omega)
  generalize recStr e s h o = l at HSR hcase
  clear ho
  go_wp2_with fail
  refine (HSR.out _).mono ?_
  rintro x w3 ⟨rfl, hb3⟩
  have HR3 : Hid (Rd w3 w.heap.size a len cap) := HR2.out.later hb3
  have HB3 : Hid (Below w.heap.size w w3) := HB2.out.trans (hb3.mono HB2.out.size)
  clear hb3 HR1 HB1 HR2 HB2 HSR
  have HHU : Hid (∀ W, Rd W w.heap.size a len cap → Below w.heap.size w W → ∀ u : ByteArray, (u.size : Int) ≤ 50 → ∃ v : ByteArray, v.size ≤ 64 ∧ (⟨#[85]⟩ : ByteArray).size + u.size ≤ 1000 ∧ Calls Tryd.prog 49 #[.string (⟨#[85]⟩ ++ u)] W fun e w' => e = .returned (.string v) ∧ Below W.heap.size W w') := fun W _ _ u hu => by
    have h1 : (⟨#[85]⟩ : ByteArray).size = 1 := rfl
    have hz : ((⟨#[85]⟩ : ByteArray) ++ u).size ≤ 60 := by rw [ByteArray.size_append, h1]; omega
    exact ⟨_, by rw [sealedStr_size _ hz]; omega, by rw [h1]; omega, spec_sealed _ W hz⟩
  rcases hcase with rfl | h64
  · go_wp2_with fail
    refine (bytes_any _ _ a len cap HR3.out 50 (by omega) (by omega)).mono ?_
    rintro x w4 ⟨u, rfl, hu, hr, hb⟩
    have HR4 : Hid (Rd w4 w.heap.size a len cap) := hr
    have HB4 : Hid (Below w.heap.size w w4) := below_of HB3.out hb (Nat.le_refl _) HB3.out.size
    clear hr hb
    obtain ⟨v, hv, hsum, hcall⟩ := HHU.out w4 HR4.out HB4.out u hu
    have HCL : Hid (Calls _ _ _ _ _) := hcall
    clear hcall
    go_wp2_with fail
    refine HCL.out.mono ?_
    rintro x w5 ⟨rfl, hb⟩
    have HR5 : Hid (Rd w5 w.heap.size a len cap) := HR4.out.later hb
    have HB5 : Hid (Below w.heap.size w w5) := HB4.out.trans (hb.mono HB4.out.size)
    clear hb HCL
    go_wp2_with fail
    refine (hurt_any _ _ a len cap HR5.out v (by omega)).mono ?_
    rintro x w6 ⟨t, rfl, ht, hr, hb⟩
    have HB6 : Hid (Below w.heap.size w w6) := below_of HB5.out hb (Nat.le_refl _) HB5.out.size
    clear hr hb
    go_wp2
    go_ret
    exact ⟨_, rfl, by omega, HB6.out⟩
  · have hme : (l.toList == ([] : List UInt8)) = false := by
      rw [toList_data]
      have : l.data.toList.length = 64 := by simpa using h64
      cases hl : l.data.toList with
      | nil => rw [hl] at this; cases this
      | cons _ _ => rfl
    go_wp2_with fail
    refine (once_any _ _ a len cap HR3.out 4 (by omega) (by omega)).mono ?_
    rintro x w4 ⟨b, rfl, hr, hb⟩
    have HR4 : Hid (Rd w4 w.heap.size a len cap) := hr
    have HB4 : Hid (Below w.heap.size w w4) := below_of HB3.out hb (Nat.le_refl _) HB3.out.size
    clear hr hb hme HR3 HB3
    cases b with
    | true =>
      go_wp2_with fail
      refine (bytes_any _ _ a len cap HR4.out 50 (by omega) (by omega)).mono ?_
      rintro x w5 ⟨u, rfl, hu, hr, hb⟩
      have HR5 : Hid (Rd w5 w.heap.size a len cap) := hr
      have HB5 : Hid (Below w.heap.size w w5) := below_of HB4.out hb (Nat.le_refl _) HB4.out.size
      clear hr hb
      obtain ⟨v, hv, hsum, hcall⟩ := HHU.out w5 HR5.out HB5.out u hu
      have HCL : Hid (Calls _ _ _ _ _) := hcall
      clear hcall
      go_wp2_with fail
      refine HCL.out.mono ?_
      rintro x w6 ⟨rfl, hb⟩
      have HR6 : Hid (Rd w6 w.heap.size a len cap) := HR5.out.later hb
      have HB6 : Hid (Below w.heap.size w w6) := HB5.out.trans (hb.mono HB5.out.size)
      clear hb HCL
      go_wp2_with fail
      refine (hurt_any _ _ a len cap HR6.out v (by omega)).mono ?_
      rintro x w7 ⟨t, rfl, ht, hr, hb⟩
      have HB7 : Hid (Below w.heap.size w w7) := below_of HB6.out hb (Nat.le_refl _) HB6.out.size
      clear hr hb
      go_wp2
      go_ret
      exact ⟨_, rfl, by omega, HB7.out⟩
    | false =>
      go_wp2_with fail
      refine (once_any _ _ a len cap HR4.out 6 (by omega) (by omega)).mono ?_
      rintro x w5 ⟨c, rfl, hr, hb⟩
      have HR5 : Hid (Rd w5 w.heap.size a len cap) := hr
      have HB5 : Hid (Below w.heap.size w w5) := below_of HB4.out hb (Nat.le_refl _) HB4.out.size
      clear hr hb HR4 HB4
      cases c with
      | false =>
        go_wp2
        go_ret
        exact ⟨l, rfl, by omega, HB5.out⟩
      | true =>
        have g60 : (60 : Int) ≤ (l.size : Int) := by omega
        have hx60 : (l.extract 0 60).size = 60 := by rw [ByteArray.size_extract]; omega
        have hu1 : (ByteArray.mk #[127]).size = 1 := rfl
        have HWI : Hid (∀ (W : World) (v : Nat), (v : Int) < 60 → Calls _ _ _ W _) := fun W v hv => with_any W (l.extract 0 60) v ⟨#[127]⟩ (by omega) (by rw [hx60, hu1]; omega)
        have HSE : Hid (∀ (W : World) (t : ByteArray), t.size ≤ 60 → ∃ z : ByteArray, z.size = 64 ∧ Calls Tryd.prog 49 #[.string t] W fun e w' => e = .returned (.string z) ∧ Below W.heap.size W w') := fun W t ht => ⟨_, sealedStr_size t ht, spec_sealed t W ht⟩
        clear hx60 hu1
        go_wp2
        go_region_with (first | (go_at_call 47; refine (below_pos _ _ a len cap HR5.out.drew 60 (by omega) (by omega)).mono ?_; rintro x w6 ⟨v, rfl, hv, hr, hb⟩; have HB6 : Hid (Below w.heap.size w w6) := below_of HB5.out.drew hb (Nat.le_refl _) HB5.out.size; clear hr hb) | (go_at_call 50; refine (HWI.out _ v hv).mono ?_; rintro x w7 ⟨t, rfl, ht, hb⟩; have HB7 : Hid (Below w.heap.size w w7) := HB6.out.trans (hb.mono HB6.out.size); clear hb; obtain ⟨z, hz, hcall⟩ := HSE.out w7 t ht; have HCL : Hid (Calls _ _ _ _ _) := hcall; clear hcall) | (go_at_call 49; refine HCL.out.mono ?_; rintro x w8 ⟨rfl, hb⟩; have HB8 : Hid (Below w.heap.size w w8) := HB7.out.trans (hb.mono HB7.out.size); clear hb))
        all_goals
          go_wp2
          go_ret
          exact ⟨_, rfl, by omega, HB8.out⟩

def rrB (t : ByteArray) : Bool := decide (t.size = 64) && recB t
def rrV (t : ByteArray) : Value := recVal (rrB t) t
theorem spec_rr (t : ByteArray) (w : World) (hm : t.size ≤ 1048576) :
    Calls Tryd.prog 25 #[.string t] w fun x w' => x = .returned (.tuple #[rrV t, .bool (rrB t)]) ∧ Below w.heap.size w w' := by
  unfold rrV
  by_cases h : t.size = 64
  · have e2 : rrB t = recB t := by unfold rrB; rw [decide_eq_true h, Bool.true_and]
    rw [e2]; exact spec_readrec t w h
  · have e2 : rrB t = false := by unfold rrB; rw [decide_eq_false h, Bool.false_and]
    rw [e2]; exact spec_readrec_no t w h hm
theorem impl_rr (t : ByteArray) (w : World) (ht : TabAt w) (h0 : 0 < w.heap.size) :
    Calls Tryd.prog 24 #[.string t] w fun x w' => x = .returned (.tuple #[rrV t, .bool (rrB t)]) ∧ Below w.heap.size w w' := by
  unfold rrV
  by_cases h : t.size = 64
  · have e2 : rrB t = recB t := by unfold rrB; rw [decide_eq_true h, Bool.true_and]
    rw [e2]; exact impl_readrec t w h ht h0
  · have e2 : rrB t = false := by unfold rrB; rw [decide_eq_false h, Bool.false_and]
    rw [e2]; exact impl_readrec_no t w h
theorem rr_back {t : ByteArray} (h : rrB t = true) : recStr (recEp t) (recSq t) (recHf t) (recOld t) = t := by
  unfold rrB at h
  simp at h
  obtain ⟨_, h2⟩ := h
  unfold recB at h2
  have h3 : (recStr (recEp t) (recSq t) (recHf t) (recOld t)).toList = t.toList := by simpa using h2
  rw [toList_data, toList_data] at h3
  exact bytes_of h3
end Go.Proofs.YthigmppalpkadaaDoor.crc
