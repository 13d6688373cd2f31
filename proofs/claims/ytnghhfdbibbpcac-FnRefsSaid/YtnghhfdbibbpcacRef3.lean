/-
  References: the specification's OldRef, YoungRef, RefKind, PlaceOf at every number; the world stays.
-/
import Derived.Test.YtnghhfdbibbpcacRef2
namespace Go.Proofs.Ytnghhfdbibbpcac.ref
open Go.RowKit

theorem i64_top {n : Int} (h : (Lit.int .i64 n).wf = true) : n < 9223372036854775808 := by
  simp [Lit.wf, IntKind.min, IntKind.max, IntKind.signed, IntKind.bits] at h
  omega
theorem specOldRef (n : Int) (w : World) :
    Calls Try.prog 17 #[.int .i64 n] w fun e w' => e = .returned (.int .i64 (oldRef n)) ∧ w = w' := by
  have hc := specIn_any w n 1 127
  by_cases h : 1 ≤ n ∧ n ≤ 127
  · obtain ⟨h0, h1⟩ := h
    rw [show oldRef n = 2 * n by unfold oldRef; rw [if_pos ⟨h0, h1⟩]]
    rw [decide_eq_true h0, decide_eq_true h1] at hc
    go_enter Try.func17, Try.ntmps17
    go_wp2_with fail
    refine hc.mono ?_
    rintro e w1 ⟨rfl, rfl⟩
    go_wp2
    go_ret
    exact ⟨rfl, rfl⟩
  · rw [show oldRef n = 0 by unfold oldRef; rw [if_neg h]]
    rw [show (decide (1 ≤ n) && decide (n ≤ 127)) = false by simp; omega] at hc
    clear h
    go_enter Try.func17, Try.ntmps17
    go_wp2_with fail
    refine hc.mono ?_
    rintro e w1 ⟨rfl, rfl⟩
    go_wp2
    go_ret
    exact ⟨rfl, rfl⟩
theorem specYoungRef (n : Int) (w : World) :
    Calls Try.prog 18 #[.int .i64 n] w fun e w' => e = .returned (.int .i64 (youngRef n)) ∧ w = w' := by
  have hc := specIn_any w n 0 399
  by_cases h : 0 ≤ n ∧ n ≤ 399
  · obtain ⟨h0, h1⟩ := h
    rw [show youngRef n = 2 * n + 1 by unfold youngRef; rw [if_pos ⟨h0, h1⟩]]
    rw [decide_eq_true h0, decide_eq_true h1] at hc
    go_enter Try.func18, Try.ntmps18
    go_wp2_with fail
    refine hc.mono ?_
    rintro e w1 ⟨rfl, rfl⟩
    go_wp2
    go_ret
    exact ⟨rfl, rfl⟩
  · rw [show youngRef n = 0 by unfold youngRef; rw [if_neg h]]
    rw [show (decide (0 ≤ n) && decide (n ≤ 399)) = false by simp; omega] at hc
    clear h
    go_enter Try.func18, Try.ntmps18
    go_wp2_with fail
    refine hc.mono ?_
    rintro e w1 ⟨rfl, rfl⟩
    go_wp2
    go_ret
    exact ⟨rfl, rfl⟩
set_option maxHeartbeats 2000000 in
theorem specRefKind (r : Int) (w : World) :
    Calls Try.prog 20 #[.int .i64 r] w fun e w' => e = .returned (.int .i64 (refKind r)) ∧ w = w' := by
  have hc := specIn_any w r 2 254
  have hd := specIn_any w r 1 799
  by_cases h0 : r = 0
  · subst h0
    rw [show refKind 0 = 0 from rfl]
    clear hc hd
    go_enter Try.func20, Try.ntmps20
    go_wp2
    go_ret
    exact ⟨rfl, rfl⟩
  have e0 : (r == 0) = false := by simpa using h0
  by_cases h1 : 2 ≤ r ∧ r ≤ 254
  · obtain ⟨h1, h2⟩ := h1
    rw [decide_eq_true h1, decide_eq_true h2] at hc
    by_cases he : r % 2 = 0
    · rw [show refKind r = 1 by unfold refKind; rw [if_neg h0, if_pos ⟨h1, h2, he⟩]]
      have e1 : (r % 2 == 0) = true := by simpa using he
      clear hd he h0
      go_enter Try.func20, Try.ntmps20
      go_wp2_with fail
      refine hc.mono ?_
      rintro e w1 ⟨rfl, rfl⟩
      go_wp2
      go_ret
      exact ⟨rfl, rfl⟩
    · rw [show refKind r = 2 by unfold refKind; rw [if_neg h0, if_neg (by omega), if_pos (by omega)]]
      have e1 : (r % 2 == 0) = false := by simpa using he
      have e2 : (r % 2 == 1) = true := by simp; omega
      rw [show (decide (1 ≤ r) && decide (r ≤ 799)) = true by simp; omega] at hd
      clear he h0
      go_enter Try.func20, Try.ntmps20
      go_wp2_with fail
      refine hc.mono ?_
      rintro e w1 ⟨rfl, rfl⟩
      go_wp2_with fail
      refine hd.mono ?_
      rintro e w1 ⟨rfl, rfl⟩
      go_wp2
      go_ret
      exact ⟨rfl, rfl⟩
  · rw [show (decide (2 ≤ r) && decide (r ≤ 254)) = false by simp; omega] at hc
    by_cases h2 : 1 ≤ r ∧ r ≤ 799
    · obtain ⟨h2, h3⟩ := h2
      rw [decide_eq_true h2, decide_eq_true h3] at hd
      by_cases he : r % 2 = 1
      · rw [show refKind r = 2 by unfold refKind; rw [if_neg h0, if_neg (by omega), if_pos ⟨h2, h3, he⟩]]
        have e1 : (r % 2 == 1) = true := by simpa using he
        clear he h0 h1
        go_enter Try.func20, Try.ntmps20
        go_wp2_with fail
        refine hc.mono ?_
        rintro e w1 ⟨rfl, rfl⟩
        go_wp2_with fail
        refine hd.mono ?_
        rintro e w1 ⟨rfl, rfl⟩
        go_wp2
        go_ret
        exact ⟨rfl, rfl⟩
      · rw [show refKind r = -1 by unfold refKind; rw [if_neg h0, if_neg (by omega), if_neg (by omega)]]
        have e1 : (r % 2 == 1) = false := by simpa using he
        clear he h0 h1
        go_enter Try.func20, Try.ntmps20
        go_wp2_with fail
        refine hc.mono ?_
        rintro e w1 ⟨rfl, rfl⟩
        go_wp2_with fail
        refine hd.mono ?_
        rintro e w1 ⟨rfl, rfl⟩
        go_wp2
        go_ret
        exact ⟨rfl, rfl⟩
    · rw [show (decide (1 ≤ r) && decide (r ≤ 799)) = false by simp; omega] at hd
      rw [show refKind r = -1 by unfold refKind; rw [if_neg h0, if_neg (by omega), if_neg (by omega)]]
      clear h0 h1 h2
      go_enter Try.func20, Try.ntmps20
      go_wp2_with fail
      refine hc.mono ?_
      rintro e w1 ⟨rfl, rfl⟩
      go_wp2_with fail
      refine hd.mono ?_
      rintro e w1 ⟨rfl, rfl⟩
      go_wp2
      go_ret
      exact ⟨rfl, rfl⟩
theorem refKind_pos {r : Int} (h : ¬ refKind r < 1) : 1 ≤ r ∧ r ≤ 799 := by
  unfold refKind at h
  split at h
  · omega
  · split at h
    · omega
    · split at h
      · omega
      · omega
theorem specPlaceOf (r : Int) (w : World) :
    Calls Try.prog 22 #[.int .i64 r] w fun e w' => e = .returned (.int .i64 (placeOf r)) ∧ w = w' := by
  have hc := specRefKind r w
  by_cases h : refKind r < 1
  · rw [show placeOf r = -1 by unfold placeOf; rw [if_pos h]]
    generalize refKind r = k at h hc
    go_enter Try.func22, Try.ntmps22
    go_wp2_with fail
    refine hc.mono ?_
    rintro e w1 ⟨rfl, rfl⟩
    go_wp2
    go_ret
    exact ⟨rfl, rfl⟩
  · rw [show placeOf r = r / 2 by unfold placeOf; rw [if_neg h]]
    obtain ⟨h1, h2⟩ := refKind_pos h
    generalize refKind r = k at h hc
    go_enter Try.func22, Try.ntmps22
    go_wp2_with fail
    refine hc.mono ?_
    rintro e w1 ⟨rfl, rfl⟩
    go_wp2
    go_ret
    exact ⟨by first | rfl | simp, rfl⟩
end Go.Proofs.Ytnghhfdbibbpcac.ref
