/-
  References: the specification's OldRef, YoungRef, RefKind, PlaceOf at every number; the world stays.
-/
import Derived.Test.YtngpmohmnpbcnaaRef2
namespace Go.Proofs.Ytngpmohmnpbcnaa.ref
open Go.RowKit

theorem i64_top {n : Int} (h : (Lit.int .i64 n).wf = true) : n < 9223372036854775808 := by
  simp [Lit.wf, IntKind.min, IntKind.max, IntKind.signed, IntKind.bits] at h
  omega
set_option maxHeartbeats 2000000 in
theorem specRefKind (r : Int) (w : World) :
    Calls Try.prog 56 #[.int .i64 r] w fun e w' => e = .returned (.int .i64 (refKind r)) ∧ w = w' := by
  have hc := specIn_any w r 2 254
  have hd := specIn_any w r 1 799
  by_cases h0 : r = 0
  · subst h0
    rw [show refKind 0 = 0 from rfl]
    clear hc hd
    go_enter Try.func56, Try.ntmps56
    go_wp2
    go_ret
    exact ⟨rfl, rfl⟩
  have e0 : (r == 0) = false := by simpa using h0
  by_cases h1 : 2 ≤ r ∧ r ≤ 254
  · obtain ⟨h1, h2⟩ := h1
    rw [decide_eq_true h1, decide_eq_true h2] at hc
    by_cases he : r % 2 = 0
    · rw [show refKind r = 1 by unfold refKind; rw [if_neg h0, if_pos ⟨h1, h2, he⟩]]
      have e1 : (r % 2 == 0) = true := by simpa using he
      clear hd he h0
      go_enter Try.func56, Try.ntmps56
      go_wp2_with fail
      refine hc.mono ?_
      rintro e w1 ⟨rfl, rfl⟩
      go_wp2
      go_ret
      exact ⟨rfl, rfl⟩
    · rw [show refKind r = 2 by unfold refKind; rw [if_neg h0, if_neg (by omega), if_pos (by omega)]]
      have e1 : (r % 2 == 0) = false := by simpa using he
      have e2 : (r % 2 == 1) = true := by simp; omega
      rw [show (decide (1 ≤ r) && decide (r ≤ 799)) = true by simp; omega] at hd
      clear he h0
      go_enter Try.func56, Try.ntmps56
      go_wp2_with fail
      refine hc.mono ?_
      rintro e w1 ⟨rfl, rfl⟩
      go_wp2_with fail
      refine hd.mono ?_
      rintro e w1 ⟨rfl, rfl⟩
      go_wp2
      go_ret
      exact ⟨rfl, rfl⟩
  · rw [show (decide (2 ≤ r) && decide (r ≤ 254)) = false by simp; omega] at hc
    by_cases h2 : 1 ≤ r ∧ r ≤ 799
    · obtain ⟨h2, h3⟩ := h2
      rw [decide_eq_true h2, decide_eq_true h3] at hd
      by_cases he : r % 2 = 1
      · rw [show refKind r = 2 by unfold refKind; rw [if_neg h0, if_neg (by omega), if_pos ⟨h2, h3, he⟩]]
        have e1 : (r % 2 == 1) = true := by simpa using he
        clear he h0 h1
        go_enter Try.func56, Try.ntmps56
        go_wp2_with fail
        refine hc.mono ?_
        rintro e w1 ⟨rfl, rfl⟩
        go_wp2_with fail
        refine hd.mono ?_
        rintro e w1 ⟨rfl, rfl⟩
        go_wp2
        go_ret
        exact ⟨rfl, rfl⟩
      · rw [show refKind r = -1 by unfold refKind; rw [if_neg h0, if_neg (by omega), if_neg (by omega)]]
        have e1 : (r % 2 == 1) = false := by simpa using he
        clear he h0 h1
        go_enter Try.func56, Try.ntmps56
        go_wp2_with fail
        refine hc.mono ?_
        rintro e w1 ⟨rfl, rfl⟩
        go_wp2_with fail
        refine hd.mono ?_
        rintro e w1 ⟨rfl, rfl⟩
        go_wp2
        go_ret
        exact ⟨rfl, rfl⟩
    · rw [show (decide (1 ≤ r) && decide (r ≤ 799)) = false by simp; omega] at hd
      rw [show refKind r = -1 by unfold refKind; rw [if_neg h0, if_neg (by omega), if_neg (by omega)]]
      clear h0 h1 h2
      go_enter Try.func56, Try.ntmps56
      go_wp2_with fail
      refine hc.mono ?_
      rintro e w1 ⟨rfl, rfl⟩
      go_wp2_with fail
      refine hd.mono ?_
      rintro e w1 ⟨rfl, rfl⟩
      go_wp2
      go_ret
      exact ⟨rfl, rfl⟩
end Go.Proofs.Ytngpmohmnpbcnaa.ref
