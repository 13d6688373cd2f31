/-
  What the laws on evictions, fences and losses of power ask besides: a list that has not a number; a fence; what is at risk.
-/
import Derived.Test.YtgpmpijaggnocaaDBox
namespace Go.Proofs.Ytgpmpijaggnocaa.dev
open Go.RowKit Go.Maps
open later

/-- A device comes back, in new memory. -/
def Alone (st : ByteArray) (L : List Ln) (w : World) (e : Ending) (w' : World) : Prop := ∃ aa cp, e = .returned (.agg #[.string st, .slice aa L.length cp]) ∧ Lines w' aa L ∧ Below w.heap.size w w'
theorem iFence (w : World) (safe : ByteArray) (a : Option Addr) (cap : Nat) (ls : List Ln) (hl : Lines w a ls) (hok : DevOk safe ls) :
    Calls Try.prog 20 #[.agg #[.string safe, .slice a ls.length cap]] w (Alone (fenceS safe ls) (fenceL ls) w) := by
  have hz := ok_sized hok
  refine (impl_fence w safe a cap ls (by have := hz.1; omega) (by have := hz.2.1; omega) hl hz.each hok).mono ?_
  rintro e w' ⟨u, rfl, ho, hb⟩
  obtain ⟨aa, g, cp, rfl, _, _, h4, _⟩ := lines_of_row ho
  exact ⟨aa, cp, rfl, h4, hb⟩
theorem iRisk (w : World) (safe : ByteArray) (a : Option Addr) (cap : Nat) (ls : List Ln) (hl : Lines w a ls) (hok : DevOk safe ls) :
    Calls Try.prog 21 #[.agg #[.string safe, .slice a ls.length cap]] w fun e w' => ∃ aa cp, e = .returned (.slice aa (riskL safe ls).length cp) ∧ Nums w' aa (riskL safe ls) ∧ Below w.heap.size w w' := by
  have hz := ok_sized hok
  refine (impl_risk w safe a cap ls (by have := hz.1; omega) (by have := hz.2.1; omega) hl hz.each hok).mono ?_
  rintro e w' ⟨v, rfl, ho, hb⟩
  obtain ⟨aa, g, cp, rfl, _, hi⟩ := ints_of_row ho
  exact ⟨aa, cp, rfl, hi.nums, hb⟩
set_option maxHeartbeats 1000000 in
theorem has_not (w : World) (a : Option Addr) (cap : Nat) (xs : List Int) (n : Int) (hx : xs.length ≤ 1048576) (hl : Nums w a xs) (hn : n ∉ xs) :
    Calls Try.prog 29 #[.slice a xs.length cap, .int .i64 n] w fun e w' => e = .returned (.bool false) ∧ Below w.heap.size w w' := by
  have HL : Hid (Nums w a xs) := hl
  clear hl
  go_enter Try.func29, Try.ntmps29
  go_wp2
  go_loopw [5] (fun i wr => ∃ k : Nat, k ≤ xs.length ∧ i = .int .i64 k ∧ wr = w) (fun i _ => xs.length - (intOf i).toNat)
  case atStart => exact ⟨0, Nat.zero_le _, rfl, rfl⟩
  case round =>
    obtain ⟨k, hk, rfl, rfl⟩ := hrel
    by_cases hlt : k < xs.length
    · obtain ⟨b, o, rfl, c0⟩ := HL.out k hlt
      have hne : (xs[k] == n) = false := by
        simp
        intro q
        exact hn (q ▸ List.getElem_mem hlt)
      generalize xs[k] = x at c0 hne
      have hlt' : (k : Int) < (xs.length : Int) := by omega
      go_wp2
      go_roundw
      case rel => exact ⟨k + 1, by omega, by go_num, trivial⟩
      case measure => simp [intOf]; omega
    · have hge : ¬ (k : Int) < (xs.length : Int) := by omega
      go_wp2
      go_ret
      exact ⟨rfl, Below.refl _ _⟩
end Go.Proofs.Ytgpmpijaggnocaa.dev
