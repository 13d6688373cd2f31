/-
  References: the program's OldRef, YoungRef, RefKind, PlaceOf at every number; nothing that was there is written.
-/
import Derived.Test.YtmnmkbhfilfifaaRef
import Derived.Below
namespace Go.Proofs.Ytmnmkbhfilfifaa.ref
open Go.RowKit

theorem oldNumber (n : Int) (w : World) (h0 : 1 ≤ n) (h1 : n ≤ 127) :
    Calls Try.prog 109 #[.int .i64 n] w fun e w' => e = .returned (.int .i64 (2 * n)) ∧ w = w' := by
  go_enter Try.func109, Try.ntmps109
  go_wp2
  go_ret
  exact ⟨rfl, rfl⟩
theorem youngNumber (n : Int) (w : World) (h0 : 0 ≤ n) (h1 : n ≤ 399) :
    Calls Try.prog 105 #[.int .i64 n] w fun e w' => e = .returned (.int .i64 (2 * n + 1)) ∧ w = w' := by
  go_enter Try.func105, Try.ntmps105
  go_wp2
  go_ret
  exact ⟨rfl, rfl⟩
theorem strangerNumber (w : World) :
    Calls Try.prog 111 #[.agg #[]] w fun e w' => e = .returned (.int .i64 0) ∧ Below w.heap.size w w' := by
  go_enter Try.func111, Try.ntmps111
  go_wp2
  go_ret
  exact ⟨rfl, by go_grown⟩
theorem oldPlace (n : Int) (w : World) :
    Calls Try.prog 110 #[.int .i64 n] w fun e w' => e = .returned (.int .i64 n) ∧ w = w' := by
  go_enter Try.func110, Try.ntmps110
  go_wp2
  go_ret
  exact ⟨rfl, rfl⟩
theorem youngPlace (n : Int) (w : World) :
    Calls Try.prog 47 #[.int .i64 n] w fun e w' => e = .returned (.int .i64 n) ∧ w = w' := by
  go_enter Try.func47, Try.ntmps47
  go_wp2
  go_ret
  exact ⟨rfl, rfl⟩
theorem strangerPlace (w : World) :
    Calls Try.prog 112 #[.agg #[]] w fun e w' => e = .returned (.int .i64 (-1)) ∧ Below w.heap.size w w' := by
  go_enter Try.func112, Try.ntmps112
  go_wp2
  go_ret
  exact ⟨rfl, by go_grown⟩
theorem nothingPlace (w : World) :
    Calls Try.prog 108 #[.agg #[]] w fun e w' => e = .returned (.int .i64 (-1)) ∧ Below w.heap.size w w' := by
  go_enter Try.func108, Try.ntmps108
  go_wp2
  go_ret
  exact ⟨rfl, by go_grown⟩
theorem implYoungRef (n : Int) (w : World) :
    Calls Try.prog 54 #[.int .i64 n] w fun e w' => e = .returned (.int .i64 (youngRef n)) ∧ Below w.heap.size w w' := by
  by_cases h : 0 ≤ n ∧ n ≤ 399
  · obtain ⟨h0, h1⟩ := h
    rw [show youngRef n = 2 * n + 1 by unfold youngRef; rw [if_pos ⟨h0, h1⟩]]
    go_enter Try.func54, Try.ntmps54
    go_wp2_with fail
    refine (youngOf_in n w h0 h1).mono ?_
    rintro e w1 ⟨rfl, rfl⟩
    go_wp2_with fail
    refine (youngNumber n w h0 h1).mono ?_
    rintro e w1 ⟨rfl, rfl⟩
    go_wp2
    go_ret
    exact ⟨rfl, Below.refl _ _⟩
  · rw [show youngRef n = 0 by unfold youngRef; rw [if_neg h]]
    have hc := youngOf_out n w h
    clear h
    go_enter Try.func54, Try.ntmps54
    go_wp2_with fail
    refine hc.mono ?_
    rintro e w1 ⟨rfl, rfl⟩
    go_wp2_with fail
    refine (strangerNumber w).mono ?_
    rintro e w1 ⟨rfl, hb⟩
    go_wp2
    go_ret
    exact ⟨rfl, hb⟩
/-- What a number is turned into. -/
inductive Is (r : Int) : Value → Prop
  | nothing (h : r = 0) : Is r (.iface 100 (.agg #[]))
  | old (n : Nat) (h : r = 2 * (n : Int)) (h0 : 1 ≤ n) (h1 : n ≤ 127) : Is r (.iface 101 (.int .i64 (n : Int)))
  | young (n : Nat) (h : r = 2 * (n : Int) + 1) (h1 : n ≤ 399) : Is r (.iface 67 (.int .i64 (n : Int)))
  | stranger (h : r < 0 ∨ (254 < r ∧ r % 2 = 0) ∨ (799 < r ∧ r % 2 = 1)) : Is r (.iface 109 (.agg #[]))
set_option maxHeartbeats 2000000 in
theorem referenceOf_any (r : Int) (w : World) (hr : r < 9223372036854775808) :
    Calls Try.prog 77 #[.int .i64 r] w fun e w' => ∃ v, e = .returned v ∧ Is r v ∧ Below w.heap.size w w' := by
  by_cases h0 : r = 0
  · subst h0
    go_enter Try.func77, Try.ntmps77
    go_wp2
    go_ret
    exact ⟨_, rfl, .nothing rfl, by go_grown⟩
  by_cases hn : r < 0
  · have e0 : (r == 0) = false := by simpa using h0
    go_enter Try.func77, Try.ntmps77
    go_wp2
    go_ret
    exact ⟨_, rfl, .stranger (.inl hn), by go_grown⟩
  obtain ⟨m, rfl⟩ := Int.eq_ofNat_of_zero_le (by omega : 0 ≤ r)
  have e0 : ((m : Int) == 0) = false := by simpa using h0
  have hq : wrap64 ((m : Int) / 2) = (m : Int) / 2 := by unfold wrap64; omega
  clear hr
  by_cases he : m % 2 = 0
  · have e1 : ((m : Int) % 2 == 0) = true := by simp; omega
    by_cases hin : 1 ≤ m / 2 ∧ m / 2 ≤ 127
    · have HC : Hid (∀ w, Calls _ _ _ w _) := fun w => oldOf_in ((m : Int) / 2) w (by omega) (by omega)
      have HI : Hid (Is (m : Int) (.iface 101 (.int .i64 ((m : Int) / 2)))) := by
        show Is (m : Int) (.iface 101 (.int .i64 ((m : Int) / 2)))
        rw [show (m : Int) / 2 = ((m / 2 : Nat) : Int) by omega]
        exact .old (m / 2) (by omega) hin.1 hin.2
      clear h0 hn he hin
      go_enter Try.func77, Try.ntmps77
      go_wp2_with fail
      refine (HC.out w).mono ?_
      rintro e w1 ⟨rfl, rfl⟩
      go_wp2
      go_ret
      exact ⟨_, rfl, HI.out, Below.refl _ _⟩
    · have HC : Hid (∀ w, Calls _ _ _ w _) := fun w => oldOf_out ((m : Int) / 2) w (by omega)
      have HI : Hid (Is (m : Int) (.iface 109 (.agg #[]))) := .stranger (.inr (.inl ⟨by omega, by omega⟩))
      clear h0 hn he hin
      go_enter Try.func77, Try.ntmps77
      go_wp2_with fail
      refine (HC.out w).mono ?_
      rintro e w1 ⟨rfl, rfl⟩
      go_wp2
      go_ret
      exact ⟨_, rfl, HI.out, Below.refl _ _⟩
  · have e1 : ((m : Int) % 2 == 0) = false := by simp; omega
    by_cases hin : m / 2 ≤ 399
    · have HC : Hid (∀ w, Calls _ _ _ w _) := fun w => youngOf_in ((m : Int) / 2) w (by omega) (by omega)
      have HI : Hid (Is (m : Int) (.iface 67 (.int .i64 ((m : Int) / 2)))) := by
        show Is (m : Int) (.iface 67 (.int .i64 ((m : Int) / 2)))
        rw [show (m : Int) / 2 = ((m / 2 : Nat) : Int) by omega]
        exact .young (m / 2) (by omega) hin
      clear h0 hn he hin
      go_enter Try.func77, Try.ntmps77
      go_wp2_with fail
      refine (HC.out w).mono ?_
      rintro e w1 ⟨rfl, rfl⟩
      go_wp2
      go_ret
      exact ⟨_, rfl, HI.out, Below.refl _ _⟩
    · have HC : Hid (∀ w, Calls _ _ _ w _) := fun w => youngOf_out ((m : Int) / 2) w (by omega)
      have HI : Hid (Is (m : Int) (.iface 109 (.agg #[]))) := .stranger (.inr (.inr ⟨by omega, by omega⟩))
      clear h0 hn he hin
      go_enter Try.func77, Try.ntmps77
      go_wp2_with fail
      refine (HC.out w).mono ?_
      rintro e w1 ⟨rfl, rfl⟩
      go_wp2
      go_ret
      exact ⟨_, rfl, HI.out, Below.refl _ _⟩
theorem implPlaceOf (r : Int) (w : World) (hr : r < 9223372036854775808) :
    Calls Try.prog 61 #[.int .i64 r] w fun e w' => e = .returned (.int .i64 (placeOf r)) ∧ Below w.heap.size w w' := by
  go_enter Try.func61, Try.ntmps61
  go_wp2_with fail
  refine (referenceOf_any r w hr).mono ?_
  rintro e w1 ⟨v, rfl, hv, hb⟩
  cases hv with
  | nothing h =>
    have hp : placeOf r = -1 := by unfold placeOf refKind; rw [if_pos h]; rfl
    go_wp2_with fail
    refine (nothingPlace w1).mono ?_
    rintro e w2 ⟨rfl, hb2⟩
    go_wp2
    go_ret
    exact ⟨by rw [hp]; rfl, hb.trans (hb2.mono hb.size)⟩
  | old n h h0 h1 =>
    have hp : placeOf r = (n : Int) := by
      have : refKind r = 1 := by unfold refKind; rw [if_neg (by omega), if_pos (by omega)]
      unfold placeOf; rw [this, if_neg (by decide)]; omega
    clear h h0 h1
    go_wp2_with fail
    refine (oldPlace n w1).mono ?_
    rintro e w2 ⟨rfl, rfl⟩
    go_wp2
    go_ret
    exact ⟨by rw [hp]; rfl, hb⟩
  | young n h h1 =>
    have hp : placeOf r = (n : Int) := by
      have : refKind r = 2 := by unfold refKind; rw [if_neg (by omega), if_neg (by omega), if_pos (by omega)]
      unfold placeOf; rw [this, if_neg (by decide)]; omega
    clear h h1
    go_wp2_with fail
    refine (youngPlace n w1).mono ?_
    rintro e w2 ⟨rfl, rfl⟩
    go_wp2
    go_ret
    exact ⟨by rw [hp]; rfl, hb⟩
  | stranger h =>
    have hp : placeOf r = -1 := by
      have : refKind r = -1 := by unfold refKind; rw [if_neg (by omega), if_neg (by omega), if_neg (by omega)]
      unfold placeOf; rw [this]; rfl
    clear h
    go_wp2_with fail
    refine (strangerPlace w1).mono ?_
    rintro e w2 ⟨rfl, hb2⟩
    go_wp2
    go_ret
    exact ⟨by rw [hp]; rfl, hb.trans (hb2.mono hb.size)⟩
end Go.Proofs.Ytmnmkbhfilfifaa.ref
