/-
  Slices of answers (two numbers each): handed in, copied, held against each other, marked; told by their numbers in a row.
-/
import Derived.Test.YtffejdggpoaniaaInts
import Derived.Test.YtffejdggpoaniaaIn
import Derived.ProofKit
import Derived.OpenShut
import Derived.ShutString
import Derived.ChangeOld
import Derived.Lib.SmallJoins
import Derived.Deep.Slices
import Derived.Deep.Strs
namespace Go.Proofs.Ytffejdggpoaniaa.ans
open Go.ChangeShapes Go.WideShapes Go.RowKit Go.Joins Go.Deep
open ints inr

theorem answer_of {H : Type} {enc : TypeId × Value → H} {W : World} {base : Nat} {sp : Nat → Bool} {held : Bool} {n : Nat} {cs : List Value} {y : DataW H × List MemPlace} (h : DataW.trod enc Try.prog W base sp held n 40 cs = some y) :
    ∃ l : Int × Int, cs = [.int .i64 l.1, .int .i64 l.2] ∧ (Lit.int .i64 l.1).wf = true ∧ (Lit.int .i64 l.2).wf = true := by
  obtain ⟨y0, y1, m, _, hlen, h0, h1⟩ := trod_struct2 Try.underlying40 h
  have hc : Try.prog.cellsOf 40 = 2 := by kernel_rfl
  rw [hc] at hlen
  obtain ⟨c0, c1, rfl⟩ : ∃ c0 c1, cs = [c0, c1] := by
    match cs, hlen with
    | [a, b], _ => exact ⟨a, b, rfl⟩
  have k2 : Try.prog.cellsOf 2 = 1 := by kernel_rfl
  obtain ⟨x0, e0, _, wf0⟩ := DataW.trod_int Try.underlying2 (show DataW.trod enc Try.prog W base sp held m 2 _ = some y0 from h0)
  obtain ⟨x1, e1, _, wf1⟩ := DataW.trod_int Try.underlying2 (show DataW.trod enc Try.prog W base sp held m 2 _ = some y1 from h1)
  simp [k2] at e0 e1
  subst e0 e1
  exact ⟨(x0, x1), rfl, wf0, wf1⟩
def flatP (ps : List (Int × Int)) : List Int := ps.flatMap fun p => [p.1, p.2]
theorem flatP_len (ps : List (Int × Int)) : (flatP ps).length = ps.length * 2 := by
  induction ps with
  | nil => rfl
  | cons p ps ih => simp [flatP] at ih ⊢; omega
theorem flatP_at (ps : List (Int × Int)) : ∀ (i : Nat) (hi : i < ps.length), (flatP ps).getD (i * 2) 0 = ps[i].1 ∧ (flatP ps).getD (i * 2 + 1) 0 = ps[i].2 := by
  induction ps with
  | nil => intro i hi; cases hi
  | cons p ps ih =>
    intro i hi
    cases i with
    | zero => simp [flatP]
    | succ i =>
      have h := ih i (by simpa using hi)
      simp only [flatP, List.flatMap_cons] at h ⊢
      have e1 : (i + 1) * 2 = i * 2 + 2 := by omega
      rw [e1]
      simpa using h
/-- Answers in a slice that is handed in: all their numbers in a row. -/
theorem answers_of {H : Type} {enc : TypeId × Value → H} {W : World} {r : Reach} {b0 : Nat} {base : Nat} {sp : Nat → Bool} {held : Bool} {v : Value} {d : DataW H} {p : List MemPlace}
    (hv : Value.okWide Try.prog W r b0 22 v) (h : DataW.Trod enc Try.prog W base sp held 22 v d p) :
    ∃ (a : Option Addr) (cap n : Nat) (ls : List Int), v = .slice a n cap ∧ ls.length = n * 2 ∧ Nums W a ls ∧ n ≤ maxLen := by
  obtain ⟨a0, len0, cap0, rfl⟩ := okWide_slice Try.underlying22 hv
  obtain ⟨fuel, hf⟩ := h
  rcases open_slice Try.underlying22 hf with ⟨hcs, _⟩ | ⟨a, len, cap, m, k, D, Pl, hcs, _, hl, hm, hmm, _, hel⟩
  · simp [Value.cells] at hcs
    obtain ⟨rfl, rfl, rfl⟩ := hcs
    exact ⟨none, 0, 0, [], rfl, rfl, fun i hi => by simp at hi, Nat.zero_le _⟩
  · simp [Value.cells] at hcs
    obtain ⟨rfl, rfl, rfl⟩ := hcs
    have hc : Try.prog.cellsOf 40 = 2 := by kernel_rfl
    rw [hc] at hel
    have hlm : len0 ≤ m := by rw [hmm]; split <;> omega
    obtain ⟨f, hf⟩ := @choose_lt (Int × Int) ⟨(0, 0)⟩ len0 (fun i l => W.cells? base (a.add (i * 2)) 2 = some [.int .i64 l.1, .int .i64 l.2]) (fun i hi => by
      obtain ⟨cs', h1, h2⟩ := hel i (by omega)
      obtain ⟨l, rfl, _, _⟩ := answer_of h2
      exact ⟨l, h1⟩)
    have hpl : ((List.range len0).map f).length = len0 := by simp
    refine ⟨some a, cap0, len0, flatP ((List.range len0).map f), rfl, by rw [flatP_len, hpl], ?_, by omega⟩
    intro i hi
    rw [flatP_len, hpl] at hi
    have hi2 : i / 2 < len0 := by omega
    have h1 := hf (i / 2) hi2
    obtain ⟨_, _, hcell⟩ := World.cells?_some h1
    have h00 := hf 0 (by omega)
    obtain ⟨_, _, hcell0⟩ := World.cells?_some h00
    have z0 := hcell0 0 (by omega)
    obtain ⟨b, off, spot⟩ := a
    have hspot : spot = none := by
      have := World.cell?_spot (show W.cell? (((⟨b, off, spot⟩ : Addr).add (0 * 2)).add 0) = some (.int .i64 (f 0).1) from z0)
      simpa [Addr.add] using this
    subst hspot
    have hadd : ∀ o j : Nat, (⟨b, o, none⟩ : Addr).add j = ⟨b, o + j, none⟩ := fun o j => by unfold Addr.add; split <;> simp_all
    have hat := flatP_at ((List.range len0).map f) (i / 2) (by rw [hpl]; exact hi2)
    have hfi : ((List.range len0).map f)[i / 2]'(by rw [hpl]; exact hi2) = f (i / 2) := by simp
    rw [hfi] at hat
    have hlt : i < (flatP ((List.range len0).map f)).length := by rw [flatP_len, hpl]; exact hi
    have hgd : (flatP ((List.range len0).map f))[i]'hlt = (flatP ((List.range len0).map f)).getD i 0 := by
      rw [List.getD_eq_getElem?_getD, List.getElem?_eq_getElem hlt]; rfl
    refine ⟨b, off, rfl, ?_⟩
    rw [hgd]
    rcases Nat.mod_two_eq_zero_or_one i with e | e
    · have c0 := hcell 0 (by omega)
      rw [hadd, hadd] at c0
      have ei : off + i / 2 * 2 + 0 = off + i := by omega
      have ej : i / 2 * 2 = i := by omega
      rw [ei] at c0
      rw [ej] at hat
      rw [hat.1]
      simpa using c0
    · have c0 := hcell 1 (by omega)
      rw [hadd, hadd] at c0
      have ei : off + i / 2 * 2 + 1 = off + i := by omega
      have ej : i / 2 * 2 + 1 = i := by omega
      rw [ei] at c0
      rw [ej] at hat
      rw [hat.2]
      simpa using c0
end Go.Proofs.Ytffejdggpoaniaa.ans
