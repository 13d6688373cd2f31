/-
  A device that is handed in, opened: its text, and its lines in memory.
-/
import Derived.Test.YtjlhendeofhdlaaDev2
import Derived.ProofKit
import Derived.OpenShut
import Derived.ShutString
import Derived.ChangeOld
import Derived.Lib.SmallJoins
import Derived.Deep.Slices
import Derived.Deep.Strs
namespace Go.Proofs.Ytjlhendeofhdlaa.dev
open Go.ChangeShapes Go.WideShapes Go.RowKit Go.Joins Go.Deep

theorem line_of {H : Type} {enc : TypeId × Value → H} {W : World} {base : Nat} {sp : Nat → Bool} {held : Bool} {n : Nat} {cs : List Value} {y : DataW H × List MemPlace} (h : DataW.trod enc Try.prog W base sp held n 57 cs = some y) :
    ∃ l : Ln, cs = [.int .i64 l.place, .string l.data, .string l.sent] ∧ (Lit.int .i64 l.place).wf = true ∧ l.data.size ≤ maxLen ∧ l.sent.size ≤ maxLen := by
  obtain ⟨y0, y1, y2, m, _, hlen, h0, h1, h2⟩ := trod_struct3 Try.underlying57 h
  have hc : Try.prog.cellsOf 57 = 3 := by kernel_rfl
  rw [hc] at hlen
  obtain ⟨c0, c1, c2, rfl⟩ : ∃ c0 c1 c2, cs = [c0, c1, c2] := by
    match cs, hlen with
    | [a, b, c], _ => exact ⟨a, b, c, rfl⟩
  have k2 : Try.prog.cellsOf 2 = 1 := by kernel_rfl
  have k9 : Try.prog.cellsOf 9 = 1 := by kernel_rfl
  obtain ⟨pl, e0, _, wf⟩ := DataW.trod_int Try.underlying2 (show DataW.trod enc Try.prog W base sp held m 2 _ = some y0 from h0)
  obtain ⟨dt, e1, _, hd⟩ := DataW.trod_string Try.underlying9 (show DataW.trod enc Try.prog W base sp held m 9 _ = some y1 from h1)
  obtain ⟨sn, e2, _, hs⟩ := DataW.trod_string Try.underlying9 (show DataW.trod enc Try.prog W base sp held m 9 _ = some y2 from h2)
  simp [k2] at e0
  simp [k9] at e1 e2
  subst e0 e1 e2
  exact ⟨⟨pl, dt, sn⟩, rfl, wf, hd, hs⟩

theorem lines_of {H : Type} {enc : TypeId × Value → H} {W : World} {base : Nat} {sp : Nat → Bool} {held : Bool} {n : Nat} {cs : List Value} {y : DataW H × List MemPlace} (h : DataW.trod enc Try.prog W base sp held n 22 cs = some y) :
    ∃ (a : Option Addr) (cap : Nat) (ls : List Ln), cs = [.slice a ls.length cap] ∧ Lines W a ls ∧ ls.length ≤ maxLen ∧ ∀ i (hi : i < ls.length), ls[i].data.size ≤ maxLen ∧ ls[i].sent.size ≤ maxLen := by
  rcases open_slice Try.underlying22 h with ⟨rfl, _⟩ | ⟨a, len, cap, m, k, D, Pl, rfl, _, hl, hm, hmm, _, hel⟩
  · exact ⟨none, 0, [], rfl, fun i hi => by simp at hi, Nat.zero_le _, fun i hi => by simp at hi⟩
  · have hc : Try.prog.cellsOf 57 = 3 := by kernel_rfl
    rw [hc] at hel
    have hlm : len ≤ m := by rw [hmm]; split <;> omega
    obtain ⟨f, hf⟩ := @choose_lt Ln ⟨⟨0, ⟨#[]⟩, ⟨#[]⟩⟩⟩ len (fun i l => W.cells? base (a.add (i * 3)) 3 = some [.int .i64 l.place, .string l.data, .string l.sent] ∧ l.data.size ≤ maxLen ∧ l.sent.size ≤ maxLen) (fun i hi => by
      obtain ⟨cs', h1, h2⟩ := hel i (by omega)
      obtain ⟨l, rfl, _, hd, hs⟩ := line_of h2
      exact ⟨l, h1, hd, hs⟩)
    refine ⟨some a, cap, (List.range len).map f, by simp, ?_, by simp; omega, ?_⟩
    · intro i hi
      have hi' : i < len := by simpa using hi
      obtain ⟨h1, _, _⟩ := hf i hi'
      obtain ⟨_, _, hcell⟩ := World.cells?_some h1
      have c0 := hcell 0 (by omega)
      have c1 := hcell 1 (by omega)
      have c2 := hcell 2 (by omega)
      have h00 := (hf 0 (by omega)).1
      obtain ⟨_, _, hcell0⟩ := World.cells?_some h00
      have z0 := hcell0 0 (by omega)
      obtain ⟨b, off, spot⟩ := a
      have hspot : spot = none := by
        have := World.cell?_spot (show W.cell? (((⟨b, off, spot⟩ : Addr).add (0 * 3)).add 0) = some (.int .i64 (f 0).place) from z0)
        simpa [Addr.add] using this
      subst hspot
      have hadd : ∀ j : Nat, (⟨b, off, none⟩ : Addr).add j = ⟨b, off + j, none⟩ := fun j => by unfold Addr.add; split <;> simp_all
      rw [hadd] at c0 c1 c2
      have hadd2 : ∀ o j : Nat, (⟨b, o, none⟩ : Addr).add j = ⟨b, o + j, none⟩ := fun o j => by unfold Addr.add; split <;> simp_all
      rw [hadd2] at c0 c1 c2
      refine ⟨b, off, rfl, ?_, ?_, ?_⟩
      · simpa using c0
      · simpa using c1
      · simpa using c2
    · intro i hi
      have hi' : i < len := by simpa using hi
      obtain ⟨_, hd, hs⟩ := hf i hi'
      simpa using ⟨hd, hs⟩

/-- A device that is handed in. -/
theorem device_of {H : Type} {enc : TypeId × Value → H} {W : World} {r : Reach} {b0 : Nat} {base : Nat} {sp : Nat → Bool} {held : Bool} {v : Value} {d : DataW H} {p : List MemPlace}
    (hv : Value.okWide Try.prog W r b0 24 v) (h : DataW.Trod enc Try.prog W base sp held 24 v d p) :
    ∃ (safe : ByteArray) (a : Option Addr) (cap : Nat) (ls : List Ln), v = .agg #[.string safe, .slice a ls.length cap] ∧ safe.size ≤ maxLen ∧ Lines W a ls ∧ ls.length ≤ maxLen ∧ ∀ i (hi : i < ls.length), ls[i].data.size ≤ maxLen ∧ ls[i].sent.size ≤ maxLen := by
  obtain ⟨c0, c1, y0, y1, n, rfl, rfl, rfl, h0, h1⟩ := open_agg2 Try.underlying24 (by kernel_rfl) (by kernel_rfl) hv h
  obtain ⟨safe, e0, _, hs⟩ := DataW.trod_string Try.underlying9 (show DataW.trod enc Try.prog W base sp held n 9 [c0] = some y0 from h0)
  obtain ⟨a, cap, ls, e1, hl, hm, hz⟩ := lines_of (show DataW.trod enc Try.prog W base sp held n 22 [c1] = some y1 from h1)
  simp at e0 e1
  subst e0 e1
  exact ⟨safe, a, cap, ls, rfl, hs, hl, hm, hz⟩
end Go.Proofs.Ytjlhendeofhdlaa.dev
