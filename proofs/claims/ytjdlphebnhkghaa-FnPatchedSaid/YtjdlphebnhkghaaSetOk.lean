/-
  SetOk, by the program and by the specification; nothing that was there is written.
-/
import Derived.Test.YtjdlphebnhkghaaRises
import Derived.Test.YtjdlphebnhkghaaIn
import Derived.BigQuiet
import Derived.Deep.QuietTactic
namespace Go.Proofs.Ytjdlphebnhkghaa.ints
open Go.RowKit inr

theorem impl_setok (w : World) (a : Option Addr) (cap : Nat) (xs : List Int) (hn : xs.length ≤ 1048576) (hl : Nums w a xs) :
    Calls Try.prog 25 #[.slice a xs.length cap] w fun e w' => e = .returned (.bool (riseN xs 1023 xs.length)) ∧ w = w' := by
  have H1 : Hid (∀ w', w = w' → _) := fun w' e => rises_any w' a cap xs 1023 hn (e ▸ hl)
  generalize riseN xs 1023 xs.length = r at H1 ⊢
  clear hl
  go_enter Try.func25, Try.ntmps25
  go_wp2_with fail
  refine (H1.out _ rfl).mono ?_
  rintro e w' ⟨rfl, rfl⟩
  go_wp2
  go_ret
  exact ⟨rfl, rfl⟩
set_option maxHeartbeats 4000000 in
theorem spec_setok (w : World) (a : Option Addr) (cap : Nat) (xs : List Int) (hn : xs.length ≤ 1048576) (hl : Nums w a xs) :
    Calls Try.prog 26 #[.slice a xs.length cap] w fun e w' => e = .returned (.bool (riseN xs 1023 xs.length)) ∧ Below w.heap.size w w' := by
  have HN : Hid (∀ w', Below w.heap.size w w' → Nums w' a xs) := fun w' h => hl.below h
  obtain ⟨res, hres⟩ : ∃ r, r = riseN xs 1023 xs.length := ⟨_, rfl⟩
  rw [← hres]
  have HMS : Hid (res = riseN xs 1023 xs.length) := hres
  clear hres
  clear hl
  go_enter Try.func26, Try.ntmps26
  go_wp2
  go_loopw [3] (fun i wr => ∃ k : Nat, k ≤ xs.length ∧ i = .int .i64 (k : Int) ∧ riseN xs 1023 k = true ∧ Below w.heap.size w wr) (fun i _ => xs.length - (intOf i).toNat)
  case atStart => exact ⟨0, Nat.zero_le _, rfl, rfl, Below.refl _ _⟩
  case round =>
    obtain ⟨k, hk, rfl, hok, hb⟩ := hrel
    have HB : Hid (Below w.heap.size w wr) := hb
    have HOK : Hid (riseN xs 1023 k = true) := hok
    clear hb hok
    by_cases hlt : k < xs.length
    · have hlti : (k : Int) < (xs.length : Int) := by omega
      have hk0 : (0 : Int) ≤ (k : Int) := by omega
      obtain ⟨b, off, rfl, c0⟩ := HN.out wr HB.out k hlt
      rw [getD_intI xs k hlt] at c0
      have HST : Hid (riseN xs 1023 (k + 1) = (decide (prevI xs k < xs.getD k 0) && decide (xs.getD k 0 ≤ 1023))) := by
        show riseN xs 1023 (k + 1) = _
        rw [riseN, HOK.out]; rfl
      have HLE : Hid (riseN xs 1023 (k + 1) = false → riseN xs 1023 xs.length = false) := riseN_le xs 1023 (k + 1) xs.length (by omega)
      have HIN : Hid (∀ w : World, Calls Try.prog 39 #[.int .i64 (xs.getD k 0), .int .i64 0, .int .i64 1023] w fun e w' => e = .returned (.bool (decide (0 ≤ xs.getD k 0) && decide (xs.getD k 0 ≤ 1023))) ∧ w' = w) := fun w => (in_any w (xs.getD k 0) 0 1023).mono fun _ _ ⟨h1, h2⟩ => ⟨h1, h2.symm⟩
      cases hin : (decide (0 ≤ xs.getD k 0) && decide (xs.getD k 0 ≤ 1023)) with
      | false =>
        rw [hin] at HIN
        have HNO : Hid (res = false) := by
          show res = _
          have h1 : riseN xs 1023 (k + 1) = false := by
            rw [HST.out]
            have hpv := (prevI_ge xs 1023 k HOK.out).1
            simp at hin ⊢
            omega
          rw [HMS.out, HLE.out h1]
        generalize xs.getD k 0 = x at c0 HIN hin
        clear hin
        go_wp2
        go_quiet (first | (go_at_call 39; refine Calls.quiet_of_same (HIN.out _)))
        go_wp2
        go_ret
        exact ⟨by rw [HNO.out]; rfl, ⟨HB.out.os, HB.out.tape, HB.out.output, HB.out.size, HB.out.block⟩⟩
      | true =>
        rw [hin] at HIN
        have hx : 0 ≤ xs.getD k 0 ∧ xs.getD k 0 ≤ 1023 := by simpa using hin
        clear hin
        cases k with
        | zero =>
          have HOK' : Hid (riseN xs 1023 (0 + 1) = true) := by
            show riseN xs 1023 (0 + 1) = true
            rw [HST.out, decide_eq_true (by show (-1 : Int) < xs.getD 0 0; omega), decide_eq_true (by omega)]; rfl
          generalize xs.getD 0 0 = x at c0 HIN hx
          rw [Nat.add_zero] at c0
          have hlen0 : (0 : Int) < (xs.length : Int) := by omega
          rw [show ((0 : Nat) : Int) = 0 from rfl]
          obtain ⟨hx0, hx1⟩ := hx
          have HBD : Hid (∀ n, Below w.heap.size w (wr.drewN n)) := fun n => ⟨HB.out.os, HB.out.tape, HB.out.output, HB.out.size, HB.out.block⟩
          go_wp2
          go_quiet (first | (go_at_call 39; refine Calls.quiet_of_same (HIN.out _)))
          go_wp2
          go_roundw
          case rel => exact ⟨0 + 1, by omega, by go_num, HOK'.out, HBD.out _⟩
          case measure => simp [intOf]; omega
        | succ j =>
          obtain ⟨b', off', he, c1⟩ := HN.out wr HB.out j (by omega)
          injection he with he
          injection he with he1 he2 _
          subst he1
          subst he2
          rw [getD_intI xs j (by omega)] at c1
          have HPV : Hid (prevI xs (j + 1) = xs.getD j 0) := rfl
          have hj0 : (0 : Int) < ((j + 1 : Nat) : Int) := by omega
          have hj1 : ((j + 1 : Nat) : Int) - 1 = (j : Int) := by omega
          have hj2 : (j : Int) < (xs.length : Int) := by omega
          have HBD : Hid (∀ n, Below w.heap.size w (wr.drewN n)) := fun n => ⟨HB.out.os, HB.out.tape, HB.out.output, HB.out.size, HB.out.block⟩
          rw [HPV.out] at HST
          generalize xs.getD (j + 1) 0 = x at c0 HIN hx HST
          generalize xs.getD j 0 = y at c1 HST
          obtain ⟨hx0, hx1⟩ := hx
          by_cases hxy : x ≤ y
          · have HNO : Hid (res = false) := by
              show res = _
              rw [HMS.out, HLE.out (by rw [HST.out, decide_eq_false (by omega)]; rfl)]
            go_wp2
            go_quiet (first | (go_at_call 39; refine Calls.quiet_of_same (HIN.out _)))
            go_wp2
            go_ret
            exact ⟨by rw [HNO.out]; rfl, HBD.out _⟩
          · have HOK' : Hid (riseN xs 1023 (j + 1 + 1) = true) := by
              show riseN xs 1023 (j + 1 + 1) = true
              rw [HST.out, decide_eq_true (by omega), decide_eq_true (by omega)]; rfl
            go_wp2
            go_quiet (first | (go_at_call 39; refine Calls.quiet_of_same (HIN.out _)))
            go_wp2
            go_roundw
            case rel => exact ⟨j + 1 + 1, by omega, by go_num, HOK'.out, HBD.out _⟩
            case measure => simp [intOf]; omega
    · have hk2 : k = xs.length := by omega
      subst hk2
      have HRES : Hid (res = true) := by
        show res = _
        rw [HMS.out, HOK.out]
      go_wp2
      go_ret
      exact ⟨by rw [HRES.out]; rfl, HB.out⟩
end Go.Proofs.Ytjdlphebnhkghaa.ints
