/-
  References: the program's OldRef, YoungRef, RefKind, PlaceOf at every number; nothing that was there is written.
-/
import Derived.Test.YtjdlphebnhkghaaRef
import Derived.Below
namespace Go.Proofs.Ytjdlphebnhkghaa.ref
open Go.RowKit

theorem oldNumber (n : Int) (w : World) (h0 : 1 ≤ n) (h1 : n ≤ 127) :
    Calls Try.prog 98 #[.int .i64 n] w fun e w' => e = .returned (.int .i64 (2 * n)) ∧ w = w' := by
  go_enter Try.func98, Try.ntmps98
  go_wp2
  go_ret
  exact ⟨rfl, rfl⟩
theorem youngNumber (n : Int) (w : World) (h0 : 0 ≤ n) (h1 : n ≤ 399) :
    Calls Try.prog 102 #[.int .i64 n] w fun e w' => e = .returned (.int .i64 (2 * n + 1)) ∧ w = w' := by
  go_enter Try.func102, Try.ntmps102
  go_wp2
  go_ret
  exact ⟨rfl, rfl⟩
theorem strangerNumber (w : World) :
    Calls Try.prog 96 #[.agg #[]] w fun e w' => e = .returned (.int .i64 0) ∧ Below w.heap.size w w' := by
  go_enter Try.func96, Try.ntmps96
  go_wp2
  go_ret
  exact ⟨rfl, by go_grown⟩
theorem implOldRef (n : Int) (w : World) :
    Calls Try.prog 16 #[.int .i64 n] w fun e w' => e = .returned (.int .i64 (oldRef n)) ∧ Below w.heap.size w w' := by
  by_cases h : 1 ≤ n ∧ n ≤ 127
  · obtain ⟨h0, h1⟩ := h
    rw [show oldRef n = 2 * n by unfold oldRef; rw [if_pos ⟨h0, h1⟩]]
    go_enter Try.func16, Try.ntmps16
    go_wp2_with fail
    refine (oldOf_in n w h0 h1).mono ?_
    rintro e w1 ⟨rfl, rfl⟩
    go_wp2_with fail
    refine (oldNumber n w h0 h1).mono ?_
    rintro e w1 ⟨rfl, rfl⟩
    go_wp2
    go_ret
    exact ⟨rfl, Below.refl _ _⟩
  · rw [show oldRef n = 0 by unfold oldRef; rw [if_neg h]]
    have hc := oldOf_out n w h
    clear h
    go_enter Try.func16, Try.ntmps16
    go_wp2_with fail
    refine hc.mono ?_
    rintro e w1 ⟨rfl, rfl⟩
    go_wp2_with fail
    refine (strangerNumber w).mono ?_
    rintro e w1 ⟨rfl, hb⟩
    go_wp2
    go_ret
    exact ⟨rfl, hb⟩
/-- What a number is turned into. -/
inductive Is (r : Int) : Value → Prop
  | nothing (h : r = 0) : Is r (.iface 89 (.agg #[]))
  | old (n : Nat) (h : r = 2 * (n : Int)) (h0 : 1 ≤ n) (h1 : n ≤ 127) : Is r (.iface 88 (.int .i64 (n : Int)))
  | young (n : Nat) (h : r = 2 * (n : Int) + 1) (h1 : n ≤ 399) : Is r (.iface 90 (.int .i64 (n : Int)))
  | stranger (h : r < 0 ∨ (254 < r ∧ r % 2 = 0) ∨ (799 < r ∧ r % 2 = 1)) : Is r (.iface 87 (.agg #[]))
set_option maxHeartbeats 2000000 in
theorem referenceOf_any (r : Int) (w : World) (hr : r < 9223372036854775808) :
    Calls Try.prog 48 #[.int .i64 r] w fun e w' => ∃ v, e = .returned v ∧ Is r v ∧ Below w.heap.size w w' := by
  by_cases h0 : r = 0
  · subst h0
    go_enter Try.func48, Try.ntmps48
    go_wp2
    go_ret
    exact ⟨_, rfl, .nothing rfl, by go_grown⟩
  by_cases hn : r < 0
  · have e0 : (r == 0) = false := by simpa using h0
    go_enter Try.func48, Try.ntmps48
    go_wp2
    go_ret
    exact ⟨_, rfl, .stranger (.inl hn), by go_grown⟩
  obtain ⟨m, rfl⟩ := Int.eq_ofNat_of_zero_le (by omega : 0 ≤ r)
  have e0 : ((m : Int) == 0) = false := by simpa using h0
  have hq : wrap64 ((m : Int) / 2) = (m : Int) / 2 := by unfold wrap64; omega
  clear hr
  by_cases he : m % 2 = 0
  · have e1 : ((m : Int) % 2 == 0) = true := by simp; omega
    by_cases hin : 1 ≤ m / 2 ∧ m / 2 ≤ 127
    · have HC : Hid (∀ w, Calls _ _ _ w _) := fun w => oldOf_in ((m : Int) / 2) w (by omega) (by omega)
      have HI : Hid (Is (m : Int) (.iface 88 (.int .i64 ((m : Int) / 2)))) := by
        show Is (m : Int) (.iface 88 (.int .i64 ((m : Int) / 2)))
        rw [show (m : Int) / 2 = ((m / 2 : Nat) : Int) by omega]
        exact .old (m / 2) (by omega) hin.1 hin.2
      clear h0 hn he hin
      go_enter Try.func48, Try.ntmps48
      go_wp2_with fail
      refine (HC.out w).mono ?_
      rintro e w1 ⟨rfl, rfl⟩
      go_wp2
      go_ret
      exact ⟨_, rfl, HI.out, Below.refl _ _⟩
    · have HC : Hid (∀ w, Calls _ _ _ w _) := fun w => oldOf_out ((m : Int) / 2) w (by omega)
      have HI : Hid (Is (m : Int) (.iface 87 (.agg #[]))) := .stranger (.inr (.inl ⟨by omega, by omega⟩))
      clear h0 hn he hin
      go_enter Try.func48, Try.ntmps48
      go_wp2_with fail
      refine (HC.out w).mono ?_
      rintro e w1 ⟨rfl, rfl⟩
      go_wp2
      go_ret
      exact ⟨_, rfl, HI.out, Below.refl _ _⟩
  · have e1 : ((m : Int) % 2 == 0) = false := by simp; omega
    by_cases hin : m / 2 ≤ 399
    · have HC : Hid (∀ w, Calls _ _ _ w _) := fun w => youngOf_in ((m : Int) / 2) w (by omega) (by omega)
      have HI : Hid (Is (m : Int) (.iface 90 (.int .i64 ((m : Int) / 2)))) := by
        show Is (m : Int) (.iface 90 (.int .i64 ((m : Int) / 2)))
        rw [show (m : Int) / 2 = ((m / 2 : Nat) : Int) by omega]
        exact .young (m / 2) (by omega) hin
      clear h0 hn he hin
      go_enter Try.func48, Try.ntmps48
      go_wp2_with fail
      refine (HC.out w).mono ?_
      rintro e w1 ⟨rfl, rfl⟩
      go_wp2
      go_ret
      exact ⟨_, rfl, HI.out, Below.refl _ _⟩
    · have HC : Hid (∀ w, Calls _ _ _ w _) := fun w => youngOf_out ((m : Int) / 2) w (by omega)
      have HI : Hid (Is (m : Int) (.iface 87 (.agg #[]))) := .stranger (.inr (.inr ⟨by omega, by omega⟩))
      clear h0 hn he hin
      go_enter Try.func48, Try.ntmps48
      go_wp2_with fail
      refine (HC.out w).mono ?_
      rintro e w1 ⟨rfl, rfl⟩
      go_wp2
      go_ret
      exact ⟨_, rfl, HI.out, Below.refl _ _⟩
theorem ta1 (w : World) : (Instr.typeAssert (.iface 89 (.agg #[])) 62 89 true).run Try.prog w = .ok (.tuple #[.agg #[], .bool true]) w := by kernel_rfl
theorem ta2 (n : Int) (w : World) : (Instr.typeAssert (.iface 88 (.int .i64 n)) 62 89 true).run Try.prog w = .ok (.tuple #[.agg #[], .bool false]) w := by kernel_rfl
theorem ta3 (n : Int) (w : World) : (Instr.typeAssert (.iface 88 (.int .i64 n)) 62 88 true).run Try.prog w = .ok (.tuple #[.int .i64 n, .bool true]) w := by kernel_rfl
theorem ta4 (n : Int) (w : World) : (Instr.typeAssert (.iface 90 (.int .i64 n)) 62 89 true).run Try.prog w = .ok (.tuple #[.agg #[], .bool false]) w := by kernel_rfl
theorem ta5 (n : Int) (w : World) : (Instr.typeAssert (.iface 90 (.int .i64 n)) 62 88 true).run Try.prog w = .ok (.tuple #[.int .i64 0, .bool false]) w := by kernel_rfl
theorem ta6 (n : Int) (w : World) : (Instr.typeAssert (.iface 90 (.int .i64 n)) 62 90 true).run Try.prog w = .ok (.tuple #[.int .i64 n, .bool true]) w := by kernel_rfl
theorem ta7 (w : World) : (Instr.typeAssert (.iface 87 (.agg #[])) 62 89 true).run Try.prog w = .ok (.tuple #[.agg #[], .bool false]) w := by kernel_rfl
theorem ta8 (w : World) : (Instr.typeAssert (.iface 87 (.agg #[])) 62 88 true).run Try.prog w = .ok (.tuple #[.int .i64 0, .bool false]) w := by kernel_rfl
theorem ta9 (w : World) : (Instr.typeAssert (.iface 87 (.agg #[])) 62 90 true).run Try.prog w = .ok (.tuple #[.int .i64 0, .bool false]) w := by kernel_rfl
set_option maxHeartbeats 1000000 in
theorem kindOf_any (r : Int) (v : Value) (w : World) (h : Is r v) :
    Calls Try.prog 47 #[v] w fun e w' => e = .returned (.int .i64 (refKind r)) ∧ Below w.heap.size w w' := by
  have h1 := ta1; have h2 := ta2; have h3 := ta3; have h4 := ta4; have h5 := ta5; have h6 := ta6; have h7 := ta7; have h8 := ta8; have h9 := ta9
  cases h with
  | nothing h =>
    rw [show refKind r = 0 by unfold refKind; rw [if_pos h]]
    go_enter Try.func47, Try.ntmps47
    go_wp2
    go_ret
    exact ⟨rfl, by go_grown⟩
  | old n h ha hb =>
    rw [show refKind r = 1 by unfold refKind; rw [if_neg (by omega), if_pos (by omega)]]
    go_enter Try.func47, Try.ntmps47
    go_wp2
    go_ret
    exact ⟨rfl, by go_grown⟩
  | young n h hb =>
    rw [show refKind r = 2 by unfold refKind; rw [if_neg (by omega), if_neg (by omega), if_pos (by omega)]]
    go_enter Try.func47, Try.ntmps47
    go_wp2
    go_ret
    exact ⟨rfl, by go_grown⟩
  | stranger h =>
    rw [show refKind r = -1 by unfold refKind; rw [if_neg (by omega), if_neg (by omega), if_neg (by omega)]]
    clear h
    go_enter Try.func47, Try.ntmps47
    go_wp2
    go_ret
    exact ⟨rfl, by go_grown⟩
theorem implRefKind (r : Int) (w : World) (hr : r < 9223372036854775808) :
    Calls Try.prog 19 #[.int .i64 r] w fun e w' => e = .returned (.int .i64 (refKind r)) ∧ Below w.heap.size w w' := by
  go_enter Try.func19, Try.ntmps19
  go_wp2_with fail
  refine (referenceOf_any r w hr).mono ?_
  rintro e w1 ⟨v, rfl, hv, hb⟩
  go_wp2_with fail
  refine (kindOf_any r v w1 hv).mono ?_
  rintro e w2 ⟨rfl, hb2⟩
  go_wp2
  go_ret
  exact ⟨rfl, hb.trans (hb2.mono hb.size)⟩
end Go.Proofs.Ytjdlphebnhkghaa.ref
