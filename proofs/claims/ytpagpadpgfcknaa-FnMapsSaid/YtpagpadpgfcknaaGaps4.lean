/-
  FreeOf, FindRun and Gaps by the specification; nothing that was there is written.
-/
import Derived.Test.YtpagpadpgfcknaaGaps3
import Derived.BigQuiet
import Derived.Deep.QuietTactic
namespace Go.Proofs.Ytpagpadpgfcknaa.lb
open Go.RowKit
open ints

theorem l6Range_any (w : World) (m : ByteArray) (a b : Int) :
    Calls Try.prog 31 #[.string m, .int .i64 a, .int .i64 b] w fun e w' => e = .returned (.bool (mapOk m && rangeB a b)) ∧ Below w.heap.size w w' := by
  have HM : Hid (∀ w, _) := fun w => l6Map_any m w
  cases hm : mapOk m with
  | false =>
    rw [hm] at HM
    clear hm
    go_enter Try.func31, Try.ntmps31
    go_wp2_with fail
    refine (HM.out _).mono ?_
    rintro e w1 ⟨rfl, hb1⟩
    go_wp2
    go_ret
    exact ⟨rfl, hb1⟩
  | true =>
    rw [hm] at HM
    clear hm
    by_cases h1 : 0 ≤ a
    · by_cases h2 : a ≤ b
      · have hr : rangeB a b = decide (b ≤ 128) := by rw [rangeB, decide_eq_true h1, decide_eq_true h2]; rfl
        rw [hr]
        go_enter Try.func31, Try.ntmps31
        go_wp2_with fail
        refine (HM.out _).mono ?_
        rintro e w1 ⟨rfl, hb1⟩
        go_wp2
        go_ret
        exact ⟨by simp, hb1⟩
      · have hr : rangeB a b = false := by rw [rangeB, decide_eq_true h1, decide_eq_false h2]; rfl
        rw [hr]
        go_enter Try.func31, Try.ntmps31
        go_wp2_with fail
        refine (HM.out _).mono ?_
        rintro e w1 ⟨rfl, hb1⟩
        go_wp2
        go_ret
        exact ⟨rfl, hb1⟩
    · have hr : rangeB a b = false := by rw [rangeB, decide_eq_false h1]; rfl
      rw [hr]
      go_enter Try.func31, Try.ntmps31
      go_wp2_with fail
      refine (HM.out _).mono ?_
      rintro e w1 ⟨rfl, hb1⟩
      go_wp2
      go_ret
      exact ⟨rfl, hb1⟩
set_option maxHeartbeats 1000000 in
theorem spec_free (m : ByteArray) (a b : Int) (w : World) :
    Calls Try.prog 13 #[.string m, .int .i64 a, .int .i64 b] w fun e w' => e = .returned (.int .i64 (freeOf m a b)) ∧ Below w.heap.size w w' := by
  have HR : Hid (∀ w, _) := fun w => l6Range_any w m a b
  cases h : mapOk m && rangeB a b with
  | false =>
    have HFF : Hid (freeOf m a b = -1) := by show freeOf m a b = -1; rw [freeOf, h]; rfl
    rw [h] at HR
    clear h
    go_enter Try.func13, Try.ntmps13
    go_wp2_with fail
    refine (HR.out _).mono ?_
    rintro e w1 ⟨rfl, hb1⟩
    go_wp2
    go_ret
    exact ⟨by rw [HFF.out]; rfl, hb1⟩
  | true =>
    obtain ⟨A, N, rfl, rfl, h128, hm, e1, e2⟩ := yes_nat h
    have HFF : Hid (freeOf m (A : Int) ((A + N : Nat) : Int) = (freeN m.data.toList A N : Int)) := by show freeOf _ _ _ = _; rw [freeOf, h, if_pos rfl, e1, e2]
    generalize freeOf m (A : Int) ((A + N : Nat) : Int) = r at HFF ⊢
    rw [h] at HR
    have hms := mapOk_size hm
    have HBIT : Hid (∀ k : Nat, k < 128 → ∀ w, Calls Try.prog 30 #[.string m, .int .i64 (k : Int)] w fun e w' => e = .returned (.bool (bitAt m.data.toList k)) ∧ w = w') := fun k hk w => l6Bit_any m hms k hk w
    generalize m.data.toList = l at *
    clear h e1 e2 hm
    go_enter Try.func13, Try.ntmps13
    go_wp2_with fail
    refine (HR.out _).mono ?_
    rintro e w1 ⟨rfl, hb1⟩
    have HB1 : Hid (Below w.heap.size w w1) := hb1
    clear hb1
    go_wp2
    go_loop [7, 8] (fun f i => ∃ k : Nat, k ≤ N ∧ i = .int .i64 ((A + k : Nat) : Int) ∧ f = .int .i64 (freeN l A k : Int)) (fun _ i => A + N - (intOf i).toNat)
    case atStart => exact ⟨0, Nat.zero_le _, rfl, rfl⟩
    case round =>
      obtain ⟨k, hk, rfl, rfl⟩ := hrel
      by_cases hlt : k < N
      · have HS : Hid (freeN l A (k + 1) = freeN l A k + (if bitAt l (A + k) = true then 0 else 1)) := rfl
        have hle := freeN_le l A k
        obtain ⟨g, hg⟩ : ∃ g, g = A + k := ⟨_, rfl⟩
        have HG : Hid (g = A + k) := hg
        rw [← hg] at HS ⊢
        have HC : Hid (∀ w, _) := HBIT.out g (by omega)
        have e2 : (g : Int) < ((A + N : Nat) : Int) := by omega
        generalize freeN l A k = F at HS hle ⊢
        clear hg
        cases hb : bitAt l g with
        | true =>
          rw [hb] at HC HS
          clear hb
          go_wp2_with fail
          refine (HC.out _).mono ?_
          rintro e w' ⟨rfl, rfl⟩
          go_wp2
          refine ⟨⟨k + 1, by omega, by have := HG.out; go_num, by rw [HS.out]; rfl⟩, by simp [intOf]; omega⟩
        | false =>
          rw [hb] at HC HS
          clear hb
          go_wp2_with fail
          refine (HC.out _).mono ?_
          rintro e w' ⟨rfl, rfl⟩
          go_wp2
          refine ⟨⟨k + 1, by omega, by have := HG.out; go_num, by rw [HS.out]; go_num⟩, by simp [intOf]; omega⟩
      · have hk2 : k = N := by omega
        subst hk2
        have e2 : ¬ ((A + k : Nat) : Int) < ((A + k : Nat) : Int) := by omega
        go_wp2
        go_ret
        exact ⟨by rw [HFF.out]; rfl, HB1.out⟩
end Go.Proofs.Ytpagpadpgfcknaa.lb
