/-
  rises: whether whole numbers rise, none of them below 0 or beyond a limit; nothing that was there is written.
-/
import Derived.Test.YtjdlphebnhkghaaInts
namespace Go.Proofs.Ytjdlphebnhkghaa.ints
open Go.RowKit

/-- The number ahead of the k-th one. -/
def prevI (xs : List Int) : Nat → Int
  | 0 => -1
  | k + 1 => xs.getD k 0
def riseN (xs : List Int) (h : Int) : Nat → Bool
  | 0 => true
  | k + 1 => riseN xs h k && (decide (prevI xs k < xs.getD k 0) && decide (xs.getD k 0 ≤ h))
theorem riseN_le (xs : List Int) (h : Int) (k n : Nat) (hk : k ≤ n) (hf : riseN xs h k = false) : riseN xs h n = false := by
  induction n with
  | zero => rw [show k = 0 by omega] at hf; exact hf
  | succ n ih =>
    by_cases e : k = n + 1
    · rw [← e]; exact hf
    · rw [riseN, ih (by omega)]; rfl
theorem getD_intI (xs : List Int) (k : Nat) (h : k < xs.length) : xs[k] = xs.getD k 0 := by
  rw [List.getD_eq_getElem?_getD, List.getElem?_eq_getElem h]; rfl
theorem prevI_ge (xs : List Int) (h : Int) (k : Nat) (hk : riseN xs h k = true) : -1 ≤ prevI xs k ∧ (0 < k → 0 ≤ prevI xs k ∧ prevI xs k ≤ h) := by
  induction k with
  | zero => simp [prevI]
  | succ k ih =>
    rw [riseN, Bool.and_eq_true, Bool.and_eq_true] at hk
    obtain ⟨h1, h2, h3⟩ := hk
    have := ih h1
    have h2' := of_decide_eq_true h2
    have h3' := of_decide_eq_true h3
    rw [prevI]
    exact ⟨by omega, fun _ => by omega⟩
theorem riseN_in (xs : List Int) (h : Int) (hok : riseN xs h xs.length = true) (k : Nat) (hk : k < xs.length) : 0 ≤ xs.getD k 0 ∧ xs.getD k 0 ≤ h := by
  have h1 : riseN xs h (k + 1) = true := by
    cases e : riseN xs h (k + 1) with
    | true => rfl
    | false => rw [riseN_le xs h (k + 1) xs.length (by omega) e] at hok; cases hok
  exact (prevI_ge xs h (k + 1) h1).2 (by omega)
set_option maxHeartbeats 4000000 in
theorem rises_any (w : World) (a : Option Addr) (cap : Nat) (xs : List Int) (hi : Int) (hn : xs.length ≤ 1048576) (hl : Nums w a xs) :
    Calls Try.prog 57 #[.slice a xs.length cap, .int .i64 hi] w fun e w' => e = .returned (.bool (riseN xs hi xs.length)) ∧ w = w' := by
  have HN : Hid (Nums w a xs) := hl
  obtain ⟨res, hres⟩ : ∃ r, r = riseN xs hi xs.length := ⟨_, rfl⟩
  rw [← hres]
  have HMS : Hid (res = riseN xs hi xs.length) := hres
  clear hl hres
  go_enter Try.func57, Try.ntmps57
  go_wp2
  go_loopw [5, 10] (fun p i wr => ∃ k : Nat, k ≤ xs.length ∧ i = .int .i64 (k : Int) ∧ p = .int .i64 (prevI xs k) ∧ riseN xs hi k = true ∧ w = wr) (fun _ i _ => xs.length - (intOf i).toNat)
  case atStart => exact ⟨0, Nat.zero_le _, rfl, rfl, rfl, rfl⟩
  case round =>
    obtain ⟨k, hk, rfl, rfl, hok, rfl⟩ := hrel
    have HOK : Hid (riseN xs hi k = true) := hok
    clear hok
    by_cases hlt : k < xs.length
    · have hlti : (k : Int) < (xs.length : Int) := by omega
      obtain ⟨b, off, rfl, c0⟩ := HN.out k hlt
      rw [getD_intI xs k hlt] at c0
      have HST : Hid (riseN xs hi (k + 1) = (decide (prevI xs k < xs.getD k 0) && decide (xs.getD k 0 ≤ hi))) := by
        show riseN xs hi (k + 1) = _
        rw [riseN, HOK.out]; rfl
      have HLE : Hid (riseN xs hi (k + 1) = false → riseN xs hi xs.length = false) := riseN_le xs hi (k + 1) xs.length (by omega)
      have HPN : Hid (prevI xs (k + 1) = xs.getD k 0) := rfl
      generalize xs.getD k 0 = x at c0 HST HPN
      generalize prevI xs k = pv at HST ⊢
      by_cases h1 : x ≤ pv
      · have HNO : Hid (res = false) := by
          show res = _
          rw [HMS.out, HLE.out (by rw [HST.out, decide_eq_false (by omega)]; rfl)]
        go_wp2
        go_ret
        exact ⟨by rw [HNO.out]; rfl, rfl⟩
      · by_cases h2 : hi < x
        · have HNO : Hid (res = false) := by
            show res = _
            rw [HMS.out, HLE.out (by rw [HST.out, decide_eq_false (by omega : ¬ x ≤ hi)]; simp)]
          go_wp2
          go_ret
          exact ⟨by rw [HNO.out]; rfl, rfl⟩
        · have HOK' : Hid (riseN xs hi (k + 1) = true) := by
            show riseN xs hi (k + 1) = true
            rw [HST.out, decide_eq_true (by omega), decide_eq_true (by omega)]; rfl
          go_wp2
          go_roundw
          case rel => exact ⟨k + 1, by omega, by go_num, by rw [HPN.out], HOK'.out, trivial⟩
          case measure => simp [intOf]; omega
    · have hk2 : k = xs.length := by omega
      subst hk2
      have HRES : Hid (res = true) := by
        show res = _
        rw [HMS.out, HOK.out]
      go_wp2
      go_ret
      exact ⟨by rw [HRES.out]; rfl, rfl⟩
end Go.Proofs.Ytjdlphebnhkghaa.ints
