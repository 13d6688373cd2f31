/-
  A run that is found: it can be taken, and none ahead of it can; when one is found.
-/
import Derived.Test.YtkckhklllcggeaaMapMath
import Derived.Test.YtkckhklllcggeaaGaps4
namespace Go.Proofs.Ytkckhklllcggeaa.lb
open Go.RowKit

theorem take_iff (m : ByteArray) (hm : mapOk m = true) (u q : Nat) (hq : 1 ≤ q) (h : u + q ≤ 128) : takeOk m (u : Int) (q : Int) = freeK m.data.toList u q := by
  have hr : runOkB (u : Int) (q : Int) = true := by
    unfold runOkB
    simp
    omega
  rw [takeOk, hm, hr]
  simp
theorem find_pos (m : ByteArray) (a b n : Int) (h : 0 ≤ findOf m a b n) : ∃ A N q t : Nat, a = (A : Int) ∧ b = ((A + N : Nat) : Int) ∧ n = (q : Int) ∧ findOf m a b n = (t : Int) ∧ 1 ≤ q ∧ q ≤ 128 ∧ A + N ≤ 128 ∧ A ≤ t ∧ t + q ≤ A + N ∧ takeOk m (t : Int) (q : Int) = true ∧ ∀ u : Nat, A ≤ u → u < t → takeOk m (u : Int) (q : Int) = false := by
  unfold findOf at h ⊢
  by_cases hc : (mapOk m && rangeB a b && (decide (1 ≤ n) && decide (n ≤ 128))) = true
  · rw [if_pos hc] at h
    rw [if_pos hc]
    rw [Bool.and_eq_true] at hc
    obtain ⟨A, N, rfl, rfl, h128, hm, e1, e2⟩ := yes_nat hc.1
    have hn : 1 ≤ n ∧ n ≤ 128 := by simpa using hc.2
    obtain ⟨q, rfl⟩ := Int.eq_ofNat_of_zero_le (by omega : 0 ≤ n)
    rw [e1, e2, Int.toNat_natCast] at h ⊢
    have hf := findG_first m.data.toList A N q (by omega)
    rcases hf with ⟨t, h1, h2, h3, h4, h5⟩ | ⟨h1, _⟩
    · refine ⟨A, N, q, t, rfl, rfl, rfl, h1, by omega, by omega, h128, h2, h3, by rw [take_iff m hm t q (by omega) (by omega)]; exact h4, fun u k1 k2 => ?_⟩
      rw [take_iff m hm u q (by omega) (by omega)]
      exact h5 u k1 k2
    · rw [h1] at h; omega
  · rw [if_neg hc] at h
    omega
theorem room_is (m : ByteArray) (a b n : Int) (h : 0 ≤ freeOf m a b) (h1 : 1 ≤ n) (h2 : n ≤ 128) :
    freeOf m a b = (sumLen (gapsOfM m a b) : Int) ∧ (gapsOfM m a b).Pairwise (fun s t => s.1 + s.2 < t.1) ∧
      decide (0 ≤ findOf m a b n) = (gapsOfM m a b).any (fun s => decide (n ≤ (s.2 : Int))) ∧ (freeOf m a b ≤ (n - 1) * (gapsOfM m a b).length ∨ 0 ≤ findOf m a b n) := by
  by_cases hc : (mapOk m && rangeB a b) = true
  · obtain ⟨A, N, rfl, rfl, h128, hm, e1, e2⟩ := yes_nat hc
    obtain ⟨q, rfl⟩ := Int.eq_ofNat_of_zero_le (by omega : 0 ≤ n)
    have hg : gapsOfM m (A : Int) ((A + N : Nat) : Int) = gapsK m.data.toList A N := by rw [gapsOfM, if_pos hc, e1, e2]
    have hfr : freeOf m (A : Int) ((A + N : Nat) : Int) = (sumLen (gapsK m.data.toList A N) : Int) := by rw [freeOf, if_pos hc, e1, e2, sum_gaps]
    have hfd : findOf m (A : Int) ((A + N : Nat) : Int) (q : Int) = findG q (gapsK m.data.toList A N) := by
      rw [findOf, hc]
      have : (decide ((1 : Int) ≤ (q : Int)) && decide ((q : Int) ≤ 128)) = true := by simp; omega
      rw [this]
      simp only [Bool.and_self, if_true, e1, e2, Int.toNat_natCast]
    rw [hg, hfr, hfd]
    have hi := gapInv m.data.toList A N
    generalize gapsK m.data.toList A N = G at hi
    refine ⟨rfl, hi.rise, ?_, ?_⟩
    · rcases findG_is q G hi.rise with ⟨s, hs, k1, k2, _⟩ | ⟨k1, k2⟩
      · rw [k2, decide_eq_true (by omega)]
        symm
        rw [List.any_eq_true]
        exact ⟨s, hs, by simp; omega⟩
      · rw [k1, decide_eq_false (by omega)]
        symm
        rw [List.any_eq_false]
        intro s hs
        have := k2 s hs
        simp
        omega
    · rcases findG_is q G hi.rise with ⟨s, hs, k1, k2, _⟩ | ⟨k1, k2⟩
      · exact .inr (by rw [k2]; omega)
      · left
        have := short_sum q G k2
        have e : ((q : Int) - 1) * (G.length : Int) = (((q - 1) * G.length : Nat) : Int) := by
          rw [Int.natCast_mul]
          congr 1
          omega
        rw [e]
        omega
  · rw [freeOf, if_neg hc] at h
    omega
end Go.Proofs.Ytkckhklllcggeaa.lb
