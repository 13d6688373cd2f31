/-
  A slice of texts that is handed in, opened.
-/
import Derived.Test.YthjfgibflbbgmaaStrs
import Derived.ProofKit
import Derived.OpenShut
import Derived.ShutString
import Derived.ChangeOld
import Derived.Lib.SmallJoins
import Derived.Deep.Slices
import Derived.Deep.Strs
namespace Go.Proofs.Ythjfgibflbbgmaa.kinds
open Go.ChangeShapes Go.WideShapes Go.RowKit Go.Joins Go.Deep

theorem strs_cells {H : Type} {enc : TypeId × Value → H} {W : World} {base : Nat} {sp : Nat → Bool} {held : Bool} {n : Nat} {cs : List Value} {y : DataW H × List MemPlace} (h : DataW.trod enc Try.prog W base sp held n 22 cs = some y) :
    ∃ (a : Option Addr) (cap : Nat) (xs : List ByteArray), cs = [.slice a xs.length cap] ∧ Strs W a xs ∧ xs.length ≤ maxLen ∧ ∀ i (hi : i < xs.length), xs[i].size ≤ maxLen := by
  rcases open_slice Try.underlying22 h with ⟨rfl, _⟩ | ⟨a, len, cap, m, k, D, Pl, rfl, _, hl, hm, hmm, _, hel⟩
  · exact ⟨none, 0, [], rfl, fun i hi => by simp at hi, Nat.zero_le _, fun i hi => by simp at hi⟩
  · have hc : Try.prog.cellsOf 9 = 1 := by kernel_rfl
    rw [hc] at hel
    have hlm : len ≤ m := by rw [hmm]; split <;> omega
    obtain ⟨f, hf⟩ := @choose_lt ByteArray ⟨⟨#[]⟩⟩ len (fun i s => W.cells? base (a.add (i * 1)) 1 = some [.string s] ∧ s.size ≤ maxLen) (fun i hi => by
      obtain ⟨cs', h1, h2⟩ := hel i (by omega)
      obtain ⟨s, e1, _, hs⟩ := DataW.trod_string Try.underlying9 (show DataW.trod enc Try.prog W base sp held _ 9 cs' = some _ from h2)
      subst e1
      exact ⟨s, h1, hs⟩)
    refine ⟨some a, cap, (List.range len).map f, by simp, ?_, by simp; omega, ?_⟩
    · intro i hi
      have hi' : i < len := by simpa using hi
      obtain ⟨h1, _⟩ := hf i hi'
      obtain ⟨_, _, hcell⟩ := World.cells?_some h1
      have c0 := hcell 0 (by omega)
      obtain ⟨_, _, hcell0⟩ := World.cells?_some (hf 0 (by omega)).1
      have z0 := hcell0 0 (by omega)
      obtain ⟨b, off, spot⟩ := a
      have hspot : spot = none := by
        have := World.cell?_spot (show W.cell? (((⟨b, off, spot⟩ : Addr).add (0 * 1)).add 0) = some (.string (f 0)) from z0)
        simpa [Addr.add] using this
      subst hspot
      have hadd : ∀ j : Nat, (⟨b, off, none⟩ : Addr).add j = ⟨b, off + j, none⟩ := fun j => by unfold Addr.add; split <;> simp_all
      rw [hadd] at c0
      have hadd2 : ∀ o j : Nat, (⟨b, o, none⟩ : Addr).add j = ⟨b, o + j, none⟩ := fun o j => by unfold Addr.add; split <;> simp_all
      rw [hadd2] at c0
      exact ⟨b, off, rfl, by simpa using c0⟩
    · intro i hi
      have hi' : i < len := by simpa using hi
      obtain ⟨_, hs⟩ := hf i hi'
      simpa using hs
set_option maxRecDepth 100000 in
theorem strs_of {H : Type} {enc : TypeId × Value → H} {W : World} {r : Reach} {b0 : Nat} {base : Nat} {sp : Nat → Bool} {held : Bool} {v : Value} {d : DataW H} {p : List MemPlace}
    (hv : Value.okWide Try.prog W r b0 22 v) (h : DataW.Trod enc Try.prog W base sp held 22 v d p) :
    ∃ (a : Option Addr) (cap : Nat) (xs : List ByteArray), v = .slice a xs.length cap ∧ Strs W a xs ∧ xs.length ≤ maxLen ∧ ∀ i (hi : i < xs.length), xs[i].size ≤ maxLen := by
  obtain ⟨a0, len0, cap0, rfl⟩ := okWide_slice Try.underlying22 hv
  obtain ⟨fuel, hf⟩ := h
  obtain ⟨a, cap, xs, e, h1, h2, h3⟩ := strs_cells hf
  simp [Value.cells] at e
  obtain ⟨rfl, rfl, rfl⟩ := e
  exact ⟨a0, cap0, xs, rfl, h1, h2, h3⟩
end Go.Proofs.Ythjfgibflbbgmaa.kinds
