/-
  The epoch's line, by the program and by the specification: an epoch comes back from it, and what is read is one.
-/
import Derived.Test.YtpkdkkjdlhillaaDoorNum
import Derived.Test.YtpkdkkjdlhillaaDoorWb
import Derived.Test.YtpkdkkjdlhillaaDoorSealImpl
import Derived.Test.YtpkdkkjdlhillaaDoorUnseal
import Derived.Test.YtpkdkkjdlhillaaDoorSealMath
namespace Go.Proofs.YtpkdkkjdlhillaaDoor.crc
open Go.RowKit
open wmath wb num

theorem eWithin (w : World) (x lo hi : Int) :
    Calls Tryd.prog 44 #[.int .i64 x, .int .i64 lo, .int .i64 hi] w fun e w' => e = .returned (.bool (decide (lo ≤ x) && decide (x ≤ hi))) ∧ w = w' := by
  by_cases h : lo ≤ x
  · have hd : decide (lo ≤ x) = true := by simpa using h
    rw [hd]
    go_enter Tryd.func44, Tryd.ntmps44
    go_wp2
    go_ret
    exact ⟨by simp, rfl⟩
  · have hd : decide (lo ≤ x) = false := by simpa using h
    rw [hd]
    go_enter Tryd.func44, Tryd.ntmps44
    go_wp2
    go_ret
    exact ⟨rfl, rfl⟩
theorem eIn (w : World) (x lo hi : Int) :
    Calls Tryd.prog 46 #[.int .i64 x, .int .i64 lo, .int .i64 hi] w fun e w' => e = .returned (.bool (decide (lo ≤ x) && decide (x ≤ hi))) ∧ w = w' := by
  by_cases h : lo ≤ x
  · have hd : decide (lo ≤ x) = true := by simpa using h
    rw [hd]
    go_enter Tryd.func46, Tryd.ntmps46
    go_wp2
    go_ret
    exact ⟨by simp, rfl⟩
  · have hd : decide (lo ≤ x) = false := by simpa using h
    rw [hd]
    go_enter Tryd.func46, Tryd.ntmps46
    go_wp2
    go_ret
    exact ⟨rfl, rfl⟩
/-- The line of an epoch; nothing when it is none. -/
def epochStr (e : Int) : ByteArray := if 0 ≤ e ∧ e ≤ 1000000000 then sealedStr (wordStr e) else ⟨#[]⟩
theorem ewrap {e : Int} (h : 0 ≤ e ∧ e ≤ 1000000000) : IntKind.u64.wrap e = e := by rw [IntKind.wrap_u64]; omega
theorem word8 (e : Int) : (wordStr e).size ≤ 60 := by rw [wordStr_size]; omega

theorem spec_epoch (e : Int) (w : World) :
    Calls Tryd.prog 49 #[.int .i64 e] w fun x w' => x = .returned (.string (epochStr e)) ∧ Below w.heap.size w w' := by
  have HI : Hid (∀ w, Calls _ _ _ w _) := fun w => eIn w e 0 1000000000
  by_cases h : 0 ≤ e ∧ e ≤ 1000000000
  · have HE : Hid (epochStr e = sealedStr (wordStr e)) := by show epochStr e = _; unfold epochStr; rw [if_pos h]
    have HW : Hid (∀ w, Calls Tryd.prog 66 #[.int .i64 e] w fun x w' => x = .returned (.string (wordStr e)) ∧ Below w.heap.size w w') := fun w => by
      have := spec_word e w
      rwa [ewrap h] at this
    have HS : Hid (∀ w, Calls _ _ _ w _) := fun w => spec_sealed (wordStr e) w (word8 e)
    rw [show (decide (0 ≤ e) && decide (e ≤ 1000000000)) = true by simp; omega] at HI
    generalize hws : wordStr e = t at HW HS HE
    clear h hws
    go_enter Tryd.func49, Tryd.ntmps49
    go_wp2_with fail
    refine (HI.out _).mono ?_
    rintro x w' ⟨rfl, rfl⟩
    go_wp2_with fail
    refine (HW.out _).mono ?_
    rintro x w1 ⟨rfl, hb1⟩
    go_wp2_with fail
    refine (HS.out _).mono ?_
    rintro x w2 ⟨rfl, hb2⟩
    go_wp2
    go_ret
    exact ⟨by rw [HE.out]; rfl, hb1.trans (hb2.mono hb1.size)⟩
  · have HE : Hid (epochStr e = ⟨#[]⟩) := by show epochStr e = _; unfold epochStr; rw [if_neg h]
    rw [show (decide (0 ≤ e) && decide (e ≤ 1000000000)) = false by simp; omega] at HI
    clear h
    go_enter Tryd.func49, Tryd.ntmps49
    go_wp2_with fail
    refine (HI.out _).mono ?_
    rintro x w' ⟨rfl, rfl⟩
    go_wp2
    go_ret
    exact ⟨by rw [HE.out]; rfl, Below.refl _ _⟩
theorem impl_epoch (e : Int) (w : World) (ht : TabAt w) (h0 : 0 < w.heap.size) :
    Calls Tryd.prog 48 #[.int .i64 e] w fun x w' => x = .returned (.string (epochStr e)) ∧ Below w.heap.size w w' := by
  have HI : Hid (∀ w, Calls _ _ _ w _) := fun w => eWithin w e 0 1000000000
  have HT : Hid (TabAt w) := ht
  clear ht
  by_cases h : 0 ≤ e ∧ e ≤ 1000000000
  · have HE : Hid (epochStr e = sealedStr (wordStr e)) := by show epochStr e = _; unfold epochStr; rw [if_pos h]
    have HW : Hid (∀ w, Calls Tryd.prog 65 #[.int .i64 e] w fun x w' => x = .returned (.string (wordStr e)) ∧ Below w.heap.size w w') := fun w => by
      have := impl_word e w
      rwa [ewrap h] at this
    have HS : Hid (∀ w, TabAt w → 0 < w.heap.size → Calls _ _ _ w _) := fun w h1 h2 => impl_sealed (wordStr e) w (word8 e) h1 h2
    rw [show (decide (0 ≤ e) && decide (e ≤ 1000000000)) = true by simp; omega] at HI
    generalize hws : wordStr e = t at HW HS HE
    clear h hws
    go_enter Tryd.func48, Tryd.ntmps48
    go_wp2_with fail
    refine (HI.out _).mono ?_
    rintro x w' ⟨rfl, rfl⟩
    go_wp2_with fail
    refine (HW.out _).mono ?_
    rintro x w1 ⟨rfl, hb1⟩
    go_wp2_with fail
    refine (HS.out _ (HT.out.below hb1 h0) (Nat.lt_of_lt_of_le h0 hb1.size)).mono ?_
    rintro x w2 ⟨rfl, hb2⟩
    go_wp2
    go_ret
    exact ⟨by rw [HE.out]; rfl, hb1.trans (hb2.mono hb1.size)⟩
  · have HE : Hid (epochStr e = ⟨#[]⟩) := by show epochStr e = _; unfold epochStr; rw [if_neg h]
    rw [show (decide (0 ≤ e) && decide (e ≤ 1000000000)) = false by simp; omega] at HI
    clear h
    go_enter Tryd.func48, Tryd.ntmps48
    go_wp2_with fail
    refine (HI.out _).mono ?_
    rintro x w' ⟨rfl, rfl⟩
    go_wp2
    go_ret
    exact ⟨by rw [HE.out]; rfl, Below.refl _ _⟩
/-- The number in the first eight bytes. -/
def epochAt (s : ByteArray) : Int := wrap64 (num (s.extract 0 8).data.toList)
def epochB (s : ByteArray) : Bool := (epochStr (epochAt s)).toList == s.toList
def epochOf (s : ByteArray) : Int := if epochB s = true then epochAt s else 0
theorem epochB_sealed {s : ByteArray} (h : epochB s = true) (h64 : s.size = 64) : sealedB s = true := by
  unfold epochB at h
  have h1 : (epochStr (epochAt s)).toList = s.toList := by simpa using h
  rw [toList_data, toList_data] at h1
  have h2 : epochStr (epochAt s) = s := bytes_of h1
  unfold epochStr at h2
  split at h2
  · rw [← h2]; exact sealed_ok _ (word8 _)
  · rw [← h2] at h64; cases h64
theorem cut_cut (s : ByteArray) : (s.extract 0 60).extract 0 8 = s.extract 0 8 := by
  rw [ByteArray.extract_extract]
  congr 1
theorem impl_read_epoch_no (s : ByteArray) (w : World) (hs : s.size ≠ 64) :
    Calls Tryd.prog 19 #[.string s] w fun x w' => x = .returned (.tuple #[.int .i64 0, .bool false]) ∧ Below w.heap.size w w' := by
  have HU : Hid (∀ w, Calls _ _ _ w _) := fun w => impl_unsealed_no s w hs
  go_enter Tryd.func19, Tryd.ntmps19
  go_wp2_with fail
  refine (HU.out _).mono ?_
  rintro x w1 ⟨rfl, hb1⟩
  go_wp2
  go_ret2
  exact ⟨rfl, by first | exact hb1 | (subst hb1; exact Below.refl _ _)⟩
set_option maxHeartbeats 1000000 in
theorem impl_read_epoch (s : ByteArray) (w : World) (hs : s.size = 64) (ht : TabAt w) (h0 : 0 < w.heap.size) :
    Calls Tryd.prog 19 #[.string s] w fun x w' => x = .returned (.tuple #[.int .i64 (epochOf s), .bool (epochB s)]) ∧ Below w.heap.size w w' := by
  have HT : Hid (TabAt w) := ht
  have HU : Hid (∀ w, TabAt w → Calls _ _ _ w _) := fun w h => impl_unsealed s w hs h
  have hz : (s.extract 0 60).size = 60 := by simp; omega
  have hz8 : ((s.extract 0 60).extract 0 8).size = 8 := by rw [cut_cut]; simp; omega
  have hnum := fun w => numberOf_any ((s.extract 0 60).extract 0 8) w (by omega)
  have hcc : num ((s.extract 0 60).extract 0 8).data.toList = num (s.extract 0 8).data.toList := by rw [cut_cut]
  have HE : Hid (∀ w, TabAt w → 0 < w.heap.size → Calls _ _ _ w _) := fun w h1 h2 => impl_epoch (epochAt s) w h1 h2
  have HB : Hid (((epochStr (epochAt s)).toList == s.toList) = epochB s) := rfl
  have HO : Hid (epochOf s = if epochB s = true then epochAt s else 0) := rfl
  have HA : Hid (epochAt s = wrap64 (num (s.extract 0 8).data.toList)) := rfl
  rw [hcc] at hnum
  generalize num (s.extract 0 8).data.toList = m at hnum HA
  have HN : Hid (∀ w, Calls _ _ _ w _) := hnum
  have hsl := @epochB_sealed s
  clear ht hcc hnum
  cases hsb : sealedB s with
  | false =>
    have hb : epochB s = false := by
      cases h : epochB s with
      | false => rfl
      | true => rw [hsl h hs] at hsb; cases hsb
    have HO2 : Hid (epochOf s = 0) := by
      have h := HO.out
      rw [hb, if_neg (by decide)] at h
      exact h
    rw [hsb] at HU
    rw [hb]
    clear HO HB hsl
    go_enter Tryd.func19, Tryd.ntmps19
    go_wp2_with fail
    refine (HU.out _ HT.out).mono ?_
    rintro x w1 ⟨rfl, hb1⟩
    go_wp2
    go_ret2
    exact ⟨by rw [HO2.out]; rfl, hb1⟩
  | true =>
    have huo : unsealedOf s = s.extract 0 60 := by unfold unsealedOf; rw [if_pos hsb]
    rw [hsb, huo] at HU
    have hbd : (8 : Int) ≤ ((s.extract 0 60).size : Int) := by omega
    generalize hbo : s.extract 0 60 = body at HU HN hbd hz hz8
    clear hbo huo hsl
    rw [HA.out] at HE HB HO
    have e1 : ((epochStr (wrap64 m)).toList == s.toList) = epochB s := HB.out
    generalize hest : epochStr (wrap64 m) = t at HE e1
    clear hest HB
    cases hb : epochB s with
    | true =>
      rw [hb] at e1
      have HO2 : Hid (epochOf s = wrap64 m) := by
        have h := HO.out
        rw [hb, if_pos rfl] at h
        exact h
      clear HO
      go_enter Tryd.func19, Tryd.ntmps19
      go_wp2_with fail
      refine (HU.out _ HT.out).mono ?_
      rintro x w1 ⟨rfl, hb1⟩
      have HT1 : Hid (TabAt w1) := HT.out.below hb1 h0
      have h1 : 0 < w1.heap.size := Nat.lt_of_lt_of_le h0 hb1.size
      go_wp2_with fail
      refine (HN.out _).mono ?_
      rintro x w2 ⟨rfl, rfl⟩
      go_wp2_with fail
      refine (HE.out _ HT1.out h1).mono ?_
      rintro x w3 ⟨rfl, hb3⟩
      go_wp2
      go_ret2
      exact ⟨by rw [HO2.out]; rfl, hb1.trans (hb3.mono hb1.size)⟩
    | false =>
      rw [hb] at e1
      have HO2 : Hid (epochOf s = 0) := by
        have h := HO.out
        rw [hb, if_neg (by decide)] at h
        exact h
      clear HO
      go_enter Tryd.func19, Tryd.ntmps19
      go_wp2_with fail
      refine (HU.out _ HT.out).mono ?_
      rintro x w1 ⟨rfl, hb1⟩
      have HT1 : Hid (TabAt w1) := HT.out.below hb1 h0
      have h1 : 0 < w1.heap.size := Nat.lt_of_lt_of_le h0 hb1.size
      go_wp2_with fail
      refine (HN.out _).mono ?_
      rintro x w2 ⟨rfl, rfl⟩
      go_wp2_with fail
      refine (HE.out _ HT1.out h1).mono ?_
      rintro x w3 ⟨rfl, hb3⟩
      go_wp2
      go_ret2
      exact ⟨by rw [HO2.out]; rfl, hb1.trans (hb3.mono hb1.size)⟩
end Go.Proofs.YtpkdkkjdlhillaaDoor.crc
