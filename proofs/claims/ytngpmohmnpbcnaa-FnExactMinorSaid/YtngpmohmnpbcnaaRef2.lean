/-
  References: the program's OldRef, YoungRef, RefKind, PlaceOf at every number; nothing that was there is written.
-/
import Derived.Test.YtngpmohmnpbcnaaRef
import Derived.Below
namespace Go.Proofs.Ytngpmohmnpbcnaa.ref
open Go.RowKit

theorem oldNumber (n : Int) (w : World) (h0 : 1 ≤ n) (h1 : n ≤ 127) :
    Calls Try.prog 131 #[.int .i64 n] w fun e w' => e = .returned (.int .i64 (2 * n)) ∧ w = w' := by
  go_enter Try.func131, Try.ntmps131
  go_wp2
  go_ret
  exact ⟨rfl, rfl⟩
theorem youngNumber (n : Int) (w : World) (h0 : 0 ≤ n) (h1 : n ≤ 399) :
    Calls Try.prog 72 #[.int .i64 n] w fun e w' => e = .returned (.int .i64 (2 * n + 1)) ∧ w = w' := by
  go_enter Try.func72, Try.ntmps72
  go_wp2
  go_ret
  exact ⟨rfl, rfl⟩
theorem strangerNumber (w : World) :
    Calls Try.prog 133 #[.agg #[]] w fun e w' => e = .returned (.int .i64 0) ∧ Below w.heap.size w w' := by
  go_enter Try.func133, Try.ntmps133
  go_wp2
  go_ret
  exact ⟨rfl, by go_grown⟩
theorem implYoungRef (n : Int) (w : World) :
    Calls Try.prog 78 #[.int .i64 n] w fun e w' => e = .returned (.int .i64 (youngRef n)) ∧ Below w.heap.size w w' := by
  by_cases h : 0 ≤ n ∧ n ≤ 399
  · obtain ⟨h0, h1⟩ := h
    rw [show youngRef n = 2 * n + 1 by unfold youngRef; rw [if_pos ⟨h0, h1⟩]]
    go_enter Try.func78, Try.ntmps78
    go_wp2_with fail
    refine (youngOf_in n w h0 h1).mono ?_
    rintro e w1 ⟨rfl, rfl⟩
    go_wp2_with fail
    refine (youngNumber n w h0 h1).mono ?_
    rintro e w1 ⟨rfl, rfl⟩
    go_wp2
    go_ret
    exact ⟨rfl, Below.refl _ _⟩
  · rw [show youngRef n = 0 by unfold youngRef; rw [if_neg h]]
    have hc := youngOf_out n w h
    clear h
    go_enter Try.func78, Try.ntmps78
    go_wp2_with fail
    refine hc.mono ?_
    rintro e w1 ⟨rfl, rfl⟩
    go_wp2_with fail
    refine (strangerNumber w).mono ?_
    rintro e w1 ⟨rfl, hb⟩
    go_wp2
    go_ret
    exact ⟨rfl, hb⟩
/-- What a number is turned into. -/
inductive Is (r : Int) : Value → Prop
  | nothing (h : r = 0) : Is r (.iface 113 (.agg #[]))
  | old (n : Nat) (h : r = 2 * (n : Int)) (h0 : 1 ≤ n) (h1 : n ≤ 127) : Is r (.iface 114 (.int .i64 (n : Int)))
  | young (n : Nat) (h : r = 2 * (n : Int) + 1) (h1 : n ≤ 399) : Is r (.iface 69 (.int .i64 (n : Int)))
  | stranger (h : r < 0 ∨ (254 < r ∧ r % 2 = 0) ∨ (799 < r ∧ r % 2 = 1)) : Is r (.iface 115 (.agg #[]))
set_option maxHeartbeats 2000000 in
theorem referenceOf_any (r : Int) (w : World) (hr : r < 9223372036854775808) :
    Calls Try.prog 59 #[.int .i64 r] w fun e w' => ∃ v, e = .returned v ∧ Is r v ∧ Below w.heap.size w w' := by
  by_cases h0 : r = 0
  · subst h0
    go_enter Try.func59, Try.ntmps59
    go_wp2
    go_ret
    exact ⟨_, rfl, .nothing rfl, by go_grown⟩
  by_cases hn : r < 0
  · have e0 : (r == 0) = false := by simpa using h0
    go_enter Try.func59, Try.ntmps59
    go_wp2
    go_ret
    exact ⟨_, rfl, .stranger (.inl hn), by go_grown⟩
  obtain ⟨m, rfl⟩ := Int.eq_ofNat_of_zero_le (by omega : 0 ≤ r)
  have e0 : ((m : Int) == 0) = false := by simpa using h0
  have hq : wrap64 ((m : Int) / 2) = (m : Int) / 2 := by unfold wrap64; omega
  clear hr
  by_cases he : m % 2 = 0
  · have e1 : ((m : Int) % 2 == 0) = true := by simp; omega
    by_cases hin : 1 ≤ m / 2 ∧ m / 2 ≤ 127
    · have HC : Hid (∀ w, Calls _ _ _ w _) := fun w => oldOf_in ((m : Int) / 2) w (by omega) (by omega)
      have HI : Hid (Is (m : Int) (.iface 114 (.int .i64 ((m : Int) / 2)))) := by
        show Is (m : Int) (.iface 114 (.int .i64 ((m : Int) / 2)))
        rw [show (m : Int) / 2 = ((m / 2 : Nat) : Int) by omega]
        exact .old (m / 2) (by omega) hin.1 hin.2
      clear h0 hn he hin
      go_enter Try.func59, Try.ntmps59
      go_wp2_with fail
      refine (HC.out w).mono ?_
      rintro e w1 ⟨rfl, rfl⟩
      go_wp2
      go_ret
      exact ⟨_, rfl, HI.out, Below.refl _ _⟩
    · have HC : Hid (∀ w, Calls _ _ _ w _) := fun w => oldOf_out ((m : Int) / 2) w (by omega)
      have HI : Hid (Is (m : Int) (.iface 115 (.agg #[]))) := .stranger (.inr (.inl ⟨by omega, by omega⟩))
      clear h0 hn he hin
      go_enter Try.func59, Try.ntmps59
      go_wp2_with fail
      refine (HC.out w).mono ?_
      rintro e w1 ⟨rfl, rfl⟩
      go_wp2
      go_ret
      exact ⟨_, rfl, HI.out, Below.refl _ _⟩
  · have e1 : ((m : Int) % 2 == 0) = false := by simp; omega
    by_cases hin : m / 2 ≤ 399
    · have HC : Hid (∀ w, Calls _ _ _ w _) := fun w => youngOf_in ((m : Int) / 2) w (by omega) (by omega)
      have HI : Hid (Is (m : Int) (.iface 69 (.int .i64 ((m : Int) / 2)))) := by
        show Is (m : Int) (.iface 69 (.int .i64 ((m : Int) / 2)))
        rw [show (m : Int) / 2 = ((m / 2 : Nat) : Int) by omega]
        exact .young (m / 2) (by omega) hin
      clear h0 hn he hin
      go_enter Try.func59, Try.ntmps59
      go_wp2_with fail
      refine (HC.out w).mono ?_
      rintro e w1 ⟨rfl, rfl⟩
      go_wp2
      go_ret
      exact ⟨_, rfl, HI.out, Below.refl _ _⟩
    · have HC : Hid (∀ w, Calls _ _ _ w _) := fun w => youngOf_out ((m : Int) / 2) w (by omega)
      have HI : Hid (Is (m : Int) (.iface 115 (.agg #[]))) := .stranger (.inr (.inr ⟨by omega, by omega⟩))
      clear h0 hn he hin
      go_enter Try.func59, Try.ntmps59
      go_wp2_with fail
      refine (HC.out w).mono ?_
      rintro e w1 ⟨rfl, rfl⟩
      go_wp2
      go_ret
      exact ⟨_, rfl, HI.out, Below.refl _ _⟩
theorem ta1 (w : World) : (Instr.typeAssert (.iface 113 (.agg #[])) 86 113 true).run Try.prog w = .ok (.tuple #[.agg #[], .bool true]) w := by kernel_rfl
theorem ta2 (n : Int) (w : World) : (Instr.typeAssert (.iface 114 (.int .i64 n)) 86 113 true).run Try.prog w = .ok (.tuple #[.agg #[], .bool false]) w := by kernel_rfl
theorem ta3 (n : Int) (w : World) : (Instr.typeAssert (.iface 114 (.int .i64 n)) 86 114 true).run Try.prog w = .ok (.tuple #[.int .i64 n, .bool true]) w := by kernel_rfl
theorem ta4 (n : Int) (w : World) : (Instr.typeAssert (.iface 69 (.int .i64 n)) 86 113 true).run Try.prog w = .ok (.tuple #[.agg #[], .bool false]) w := by kernel_rfl
theorem ta5 (n : Int) (w : World) : (Instr.typeAssert (.iface 69 (.int .i64 n)) 86 114 true).run Try.prog w = .ok (.tuple #[.int .i64 0, .bool false]) w := by kernel_rfl
theorem ta6 (n : Int) (w : World) : (Instr.typeAssert (.iface 69 (.int .i64 n)) 86 69 true).run Try.prog w = .ok (.tuple #[.int .i64 n, .bool true]) w := by kernel_rfl
theorem ta7 (w : World) : (Instr.typeAssert (.iface 115 (.agg #[])) 86 113 true).run Try.prog w = .ok (.tuple #[.agg #[], .bool false]) w := by kernel_rfl
theorem ta8 (w : World) : (Instr.typeAssert (.iface 115 (.agg #[])) 86 114 true).run Try.prog w = .ok (.tuple #[.int .i64 0, .bool false]) w := by kernel_rfl
theorem ta9 (w : World) : (Instr.typeAssert (.iface 115 (.agg #[])) 86 69 true).run Try.prog w = .ok (.tuple #[.int .i64 0, .bool false]) w := by kernel_rfl
set_option maxHeartbeats 1000000 in
theorem kindOf_any (r : Int) (v : Value) (w : World) (h : Is r v) :
    Calls Try.prog 58 #[v] w fun e w' => e = .returned (.int .i64 (refKind r)) ∧ Below w.heap.size w w' := by
  have h1 := ta1; have h2 := ta2; have h3 := ta3; have h4 := ta4; have h5 := ta5; have h6 := ta6; have h7 := ta7; have h8 := ta8; have h9 := ta9
  cases h with
  | nothing h =>
    rw [show refKind r = 0 by unfold refKind; rw [if_pos h]]
    go_enter Try.func58, Try.ntmps58
    go_wp2
    go_ret
    exact ⟨rfl, by go_grown⟩
  | old n h ha hb =>
    rw [show refKind r = 1 by unfold refKind; rw [if_neg (by omega), if_pos (by omega)]]
    go_enter Try.func58, Try.ntmps58
    go_wp2
    go_ret
    exact ⟨rfl, by go_grown⟩
  | young n h hb =>
    rw [show refKind r = 2 by unfold refKind; rw [if_neg (by omega), if_neg (by omega), if_pos (by omega)]]
    go_enter Try.func58, Try.ntmps58
    go_wp2
    go_ret
    exact ⟨rfl, by go_grown⟩
  | stranger h =>
    rw [show refKind r = -1 by unfold refKind; rw [if_neg (by omega), if_neg (by omega), if_neg (by omega)]]
    clear h
    go_enter Try.func58, Try.ntmps58
    go_wp2
    go_ret
    exact ⟨rfl, by go_grown⟩
theorem implRefKind (r : Int) (w : World) (hr : r < 9223372036854775808) :
    Calls Try.prog 33 #[.int .i64 r] w fun e w' => e = .returned (.int .i64 (refKind r)) ∧ Below w.heap.size w w' := by
  go_enter Try.func33, Try.ntmps33
  go_wp2_with fail
  refine (referenceOf_any r w hr).mono ?_
  rintro e w1 ⟨v, rfl, hv, hb⟩
  go_wp2_with fail
  refine (kindOf_any r v w1 hv).mono ?_
  rintro e w2 ⟨rfl, hb2⟩
  go_wp2
  go_ret
  exact ⟨rfl, hb.trans (hb2.mono hb.size)⟩
end Go.Proofs.Ytngpmohmnpbcnaa.ref
