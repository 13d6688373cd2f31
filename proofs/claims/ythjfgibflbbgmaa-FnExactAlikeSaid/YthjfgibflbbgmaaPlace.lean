/-
  The place at which a number first stands in a list, by the specification; the lines of a set, by the specification.
-/
import Derived.Test.YthjfgibflbbgmaaSetOk
import Derived.Deep.WholeRow
namespace Go.Proofs.Ythjfgibflbbgmaa.ints
open Go.RowKit inr

/-- The first place among the first k, or -1. -/
def seekI (r : Int) (l : List Int) : Nat → Int
  | 0 => -1
  | k + 1 => if 0 ≤ seekI r l k then seekI r l k else if l.getD k 0 = r then (k : Int) else -1
theorem seekI_in (r : Int) (l : List Int) (k : Nat) : seekI r l k = -1 ∨ (0 ≤ seekI r l k ∧ seekI r l k < (k : Int)) := by
  induction k with
  | zero => left; rfl
  | succ k ih =>
    rw [seekI]
    split
    · right; omega
    · split
      · right; omega
      · left; rfl
theorem seekI_keep (r : Int) (l : List Int) (k n : Nat) (h : k ≤ n) (hs : 0 ≤ seekI r l k) : seekI r l n = seekI r l k := by
  induction n with
  | zero => rw [show k = 0 by omega]
  | succ n ih =>
    by_cases e : k = n + 1
    · rw [e]
    · rw [seekI, ih (by omega), if_pos hs]
theorem place_any (w : World) (a : Option Addr) (n cap : Nat) (fr : List Int) (r : Int) (hx : fr.length = n) (hn : n ≤ 1048576) (hl : Nums w a fr) :
    Calls Try.prog 40 #[.slice a n cap, .int .i64 r] w fun e w' => e = .returned (.int .i64 (seekI r fr n)) ∧ w = w' := by
  subst hx
  have HN : Hid (Nums w a fr) := hl
  obtain ⟨res, hres⟩ : ∃ x, x = seekI r fr fr.length := ⟨_, rfl⟩
  rw [← hres]
  have HR : Hid (res = seekI r fr fr.length) := hres
  clear hl hres
  go_enter Try.func40, Try.ntmps40
  go_wp2
  go_loopw [5] (fun i wr => ∃ k : Nat, k ≤ fr.length ∧ i = .int .i64 (k : Int) ∧ seekI r fr k = -1 ∧ w = wr) (fun i _ => fr.length - (intOf i).toNat)
  case atStart => exact ⟨0, Nat.zero_le _, rfl, rfl, rfl⟩
  case round =>
    obtain ⟨k, hk, rfl, hok, rfl⟩ := hrel
    have HOK : Hid (seekI r fr k = -1) := hok
    clear hok
    by_cases hlt : k < fr.length
    · have hlti : (k : Int) < (fr.length : Int) := by omega
      have hk0 : (0 : Int) ≤ (k : Int) := by omega
      obtain ⟨b, off, rfl, c0⟩ := HN.out k hlt
      rw [getD_intI fr k hlt] at c0
      have HS : Hid (seekI r fr (k + 1) = if fr.getD k 0 = r then (k : Int) else -1) := by
        show seekI r fr (k + 1) = _
        rw [seekI, HOK.out, if_neg (by omega)]
      have HK : Hid (0 ≤ seekI r fr (k + 1) → seekI r fr fr.length = seekI r fr (k + 1)) := seekI_keep r fr (k + 1) fr.length (by omega)
      generalize fr.getD k 0 = x at c0 HS
      by_cases hx : x = r
      · have he : (x == r) = true := by simpa using hx
        have HR2 : Hid (res = (k : Int)) := by
          show res = _
          have h1 := HS.out
          rw [if_pos hx] at h1
          rw [HR.out, HK.out (by rw [h1]; omega), h1]
        clear hx
        go_wp2
        go_ret
        have hres := HR2.out
        subst hres
        exact ⟨rfl, rfl⟩
      · have he : (x == r) = false := by simpa using hx
        have HOK2 : Hid (seekI r fr (k + 1) = -1) := by
          show seekI r fr (k + 1) = -1
          rw [HS.out, if_neg hx]
        clear hx
        go_wp2
        go_roundw
        case rel => exact ⟨k + 1, by omega, by go_num, HOK2.out, trivial⟩
        case measure => simp [intOf]; omega
    · obtain rfl : k = fr.length := by omega
      have HR2 : Hid (res = -1) := by show res = -1; rw [HR.out, HOK.out]
      go_wp2
      go_ret
      exact ⟨by rw [HR2.out]; rfl, rfl⟩
/-- The lines of the first k words, each once. -/
def cardsK (xs : List Int) : Nat → List Int
  | 0 => []
  | k + 1 => if seekI (xs.getD k 0 / 8) (cardsK xs k) (cardsK xs k).length < 0 then cardsK xs k ++ [xs.getD k 0 / 8] else cardsK xs k
theorem cardsK_len (xs : List Int) (k : Nat) : (cardsK xs k).length ≤ k := by
  induction k with
  | zero => simp [cardsK]
  | succ k ih =>
    rw [cardsK]
    split
    · rw [List.length_append]; simp; omega
    · omega
def cardsS (xs : List Int) : List Int := if riseN xs 1023 xs.length = true then cardsK xs xs.length else []
end Go.Proofs.Ythjfgibflbbgmaa.ints
