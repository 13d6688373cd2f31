/-
  Objects that are handed in: what they read as; their size, their copies, and that one is like itself.
-/
import Derived.Test.YtngpmohmnpbcnaaStrsOpen
import Derived.Test.YtngpmohmnpbcnaaIntsOpen
import Derived.Lib.SmallJoins
namespace Go.Proofs.Ytngpmohmnpbcnaa.obj
open Go.RowKit Go.ChangeShapes Go.WideShapes Go.ChangeAt Go.Joins Go.Deep
open kinds ints

theorem nums_cells {H : Type} {enc : TypeId × Value → H} {W : World} {base : Nat} {sp : Nat → Bool} {held : Bool} {n : Nat} {cs : List Value} {y : DataW H × List MemPlace} (h : DataW.trod enc Try.prog W base sp held n 23 cs = some y) :
    ∃ (kb : Option Addr) (kc : Nat) (ks : List Int), cs = [.slice kb ks.length kc] ∧ ks.length ≤ maxLen ∧ Nums W kb ks ∧ ∀ x ∈ ks, (Lit.int .i64 x).wf = true := by
  rcases open_ints Try.underlying23 Try.underlying2 (by kernel_rfl) h with ⟨hcs, _⟩ | ⟨x, l, c, zs, hcs, _, hl, hm, hz, _, hcell, hwf⟩
  · exact ⟨none, 0, [], hcs, Nat.zero_le _, fun i hi => absurd hi (by simp), fun x hx => by cases hx⟩
  · have hzl : l ≤ zs.length := by rw [hz]; split <;> omega
    have htl : (zs.take l).length = l := by simp; omega
    refine ⟨some x, c, zs.take l, by rw [htl]; exact hcs, by rw [htl]; omega, fun i hi => ?_, fun y hy => hwf y (List.mem_of_mem_take hy)⟩
    rw [htl] at hi
    have hc := hcell i (by omega)
    have h0 := hcell 0 (by omega)
    obtain ⟨b, off, spot⟩ := x
    have hspot : spot = none := by
      have := World.cell?_spot h0
      simpa [Addr.add] using this
    subst hspot
    have hadd : ∀ j : Nat, (⟨b, off, none⟩ : Addr).add j = ⟨b, off + j, none⟩ := fun j => by unfold Addr.add; split <;> simp_all
    rw [hadd] at hc
    refine ⟨b, off, rfl, ?_⟩
    rw [hc]
    simp [List.getElem?_eq_getElem (show i < zs.length by omega)]
set_option maxRecDepth 100000 in
theorem numsw_of {H : Type} {enc : TypeId × Value → H} {W : World} {r : Reach} {b0 : Nat} {base : Nat} {sp : Nat → Bool} {held : Bool} {v : Value} {d : DataW H} {p : List MemPlace}
    (hv : Value.okWide Try.prog W r b0 23 v) (h : DataW.Trod enc Try.prog W base sp held 23 v d p) :
    ∃ (kb : Option Addr) (kc : Nat) (ks : List Int), v = .slice kb ks.length kc ∧ ks.length ≤ maxLen ∧ Nums W kb ks ∧ ∀ x ∈ ks, (Lit.int .i64 x).wf = true := by
  obtain ⟨a0, len0, cap0, rfl⟩ := okWide_slice Try.underlying23 hv
  obtain ⟨fuel, hf⟩ := h
  obtain ⟨kb, kc, ks, hcs, hm, hl, hw⟩ := nums_cells hf
  simp [Value.cells] at hcs
  obtain ⟨rfl, rfl, rfl⟩ := hcs
  exact ⟨_, _, _, rfl, hm, hl, hw⟩
theorem i64_top {n : Int} (h : (Lit.int .i64 n).wf = true) : n < 9223372036854775808 := by
  simp [Lit.wf] at h
  omega
theorem two_set {w : World} {b c : Nat} (hbc : b ≠ c) {v0 v1 : Value} (h0 : w.cell? ⟨b, 0, none⟩ = some v0) (h1 : w.cell? ⟨b, 1, none⟩ = some v1) (S x0 x1 : Value) :
    (((w.setCell ⟨c, 1, none⟩ S).setCell ⟨b, 0, none⟩ x0).setCell ⟨b, 1, none⟩ x1).cell? ⟨b, 0, none⟩ = some x0 ∧ (((w.setCell ⟨c, 1, none⟩ S).setCell ⟨b, 0, none⟩ x0).setCell ⟨b, 1, none⟩ x1).cell? ⟨b, 1, none⟩ = some x1 := by
  have ne : ∀ i j : Nat, i ≠ j → (⟨b, i, none⟩ : Addr) ≠ ⟨b, j, none⟩ := fun i j h q => h (by simpa using congrArg Addr.off q)
  have nc : ∀ j : Nat, (⟨c, 1, none⟩ : Addr) ≠ ⟨b, j, none⟩ := fun j q => hbc (by simpa using (congrArg Addr.block q).symm)
  refine ⟨?_, ?_⟩
  · rw [World.cell?_setCell_other _ _ _ _ (ne 1 0 (by omega))]
    exact World.cell?_setCell_same _ _ _ (by rw [World.cell?_setCell_other _ _ _ _ (nc 0)]; exact h0)
  · exact World.cell?_setCell_same _ _ _ (by rw [World.cell?_setCell_other _ _ _ _ (ne 0 1 (by omega)), World.cell?_setCell_other _ _ _ _ (nc 1)]; exact h1)
end Go.Proofs.Ytngpmohmnpbcnaa.obj
