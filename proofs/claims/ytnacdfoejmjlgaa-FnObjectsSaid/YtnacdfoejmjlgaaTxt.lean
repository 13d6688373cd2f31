/-
  Slices of texts of one's own: held against each other, marked, and their marks found again; a text put behind them.
-/
import Derived.Test.YtnacdfoejmjlgaaStrs
import Derived.Test.YtnacdfoejmjlgaaConv
import Derived.Test.YtnacdfoejmjlgaaInts
import Derived.Deep.RegionWith
import Derived.Deep.RegionHeld3
namespace Go.Proofs.Ytnacdfoejmjlgaa.txt
open Go.RowKit
open kinds ints

def digs : Nat → Nat → ByteArray → ByteArray
  | 0, _, s => s
  | f + 1, j, s => if j = 0 then s else digs f (j / 10) (strOfNums [48 + (j : Int) % 10] ++ s)
theorem digs_zero (f : Nat) (s : ByteArray) : digs f 0 s = s := by cases f <;> simp [digs]
theorem digs_fuel (f : Nat) : ∀ (g j : Nat) (s : ByteArray), j ≤ f → j ≤ g → digs f j s = digs g j s := by
  induction f with
  | zero =>
    intro g j s h1 h2
    obtain rfl : j = 0 := by omega
    rw [digs_zero, digs_zero]
  | succ f ih =>
    intro g j s h1 h2
    by_cases h0 : j = 0
    · subst h0; rw [digs_zero, digs_zero]
    · obtain ⟨g, rfl⟩ : ∃ g', g = g' + 1 := ⟨g - 1, by omega⟩
      simp only [digs, if_neg h0]
      exact ih g (j / 10) _ (by omega) (by omega)
/-- The text of a mark. -/
def markStr (k : Nat) : ByteArray := ⟨#[109]⟩ ++ digs k k ⟨#[]⟩
/-- Texts in a slice that begins at a block's head, and that may be written. -/
def Txts (w : World) (a : Option Addr) (g : Nat) (xs : List ByteArray) : Prop :=
  ∀ i (hi : i < xs.length), a = some ⟨g, 0, none⟩ ∧ w.cell? ⟨g, i, none⟩ = some (.string xs[i]) ∧ w.frozen? ⟨g, i, none⟩ = false
theorem Txts.strs {w : World} {a : Option Addr} {g : Nat} {xs : List ByteArray} (h : Txts w a g xs) : Strs w a xs := fun i hi => by
  obtain ⟨e, h0, _⟩ := h i hi
  exact ⟨g, 0, e, by rw [Nat.zero_add]; exact h0⟩
theorem Txts.grown {w w' : World} {a : Option Addr} {g r : Nat} {xs : List ByteArray} (h : Txts w a g xs) (hg : w.grownBy w' (some r)) (hne : 0 < xs.length → g ≠ r) : Txts w' a g xs := fun i hi => by
  obtain ⟨e, h0, h1⟩ := h i hi
  have hlt := World.block_lt_of_cell? w _ h0
  have hbk := hg.block g hlt (fun q => hne (by omega) (Option.some.inj q))
  exact ⟨e, by rw [World.cell?_of_block (a := ⟨g, i, none⟩) hbk]; exact h0, by rw [World.frozen?_of_block (a := ⟨g, i, none⟩) hbk]; exact h1⟩
theorem Txts.below {w w' : World} {a : Option Addr} {g : Nat} {xs : List ByteArray} (h : Txts w a g xs) (hb : Below w.heap.size w w') : Txts w' a g xs := fun i hi => by
  obtain ⟨e, h0, h1⟩ := h i hi
  have hlt := World.block_lt_of_cell? w _ h0
  exact ⟨e, by rw [hb.cell (p := ⟨g, i, none⟩) hlt]; exact h0, by rw [hb.frozen (p := ⟨g, i, none⟩) hlt]; exact h1⟩
theorem Txts.lt {w : World} {a : Option Addr} {g : Nat} {xs : List ByteArray} (h : Txts w a g xs) (h0 : 0 < xs.length) : g < w.heap.size := World.block_lt_of_cell? w _ (h 0 h0).2.1
theorem txts_of_row {w : World} {base : Nat} {v : Value} {xs : List ByteArray} (h : w.ownsRow base 9 1 v xs.length (xs.map Value.string)) : ∃ a g cap, v = .slice a xs.length cap ∧ base ≤ g ∧ Txts w a g xs := by
  rcases h.2 with ⟨rfl, h0⟩ | ⟨g, cap, cur, rfl, hb, hg, hc, hcm, hcs, ht⟩
  · exact ⟨none, base, 0, by rw [h0], Nat.le_refl _, fun i hi => by omega⟩
  · refine ⟨_, g, cap, rfl, hb, fun i hi => ⟨rfl, ?_, ?_⟩⟩
    · have hx : (cur.toList.take (xs.length * 1))[i]? = some (.string xs[i]) := by rw [ht]; simp [List.getElem?_eq_getElem hi]
      rw [List.getElem?_take, if_pos (by omega)] at hx
      rw [cell_of_row w g i cur 9 (0, 0) hg]
      simpa using hx
    · simp [World.frozen?, hg]
theorem own_stepT {w w1 : World} {B e z : Nat} {v : Value} {n : Nat} {xs : List Value} {W : World} (h : w.ownsRow B e z v n xs) (hb : Below B W w) (hB : B ≤ w.heap.size) (hg : w.grownBy w1 v.ownBlock) : Below B W w1 :=
  hb.trans ⟨hg.os, hg.tape, hg.output, hg.size, fun k hk => hg.block k (by omega) (fun e => by have := (h.lt k e.symm).1; omega)⟩
theorem infoTxt : (Try.prog.info? 9).map (fun i => (i.zero, i.size, i.bytes)) = some (some (.string ⟨#[]⟩), 1, 16) := by kernel_rfl
theorem wpList_pushT {ops : Array Oper} {rest : List Oper} {o : Oper} {a : Act} {Q : Exit → Act → World → Prop} (X : World) (hgd : o.guard = none) (s x : Operand)
    (ho : o.op = .call { callee := .builtin .append, args := #[s, x], argTypes := #[24, 24] }) (base : Nat) (v : Value) (xs : List ByteArray) (y : ByteArray)
    (hown : X.ownsRow base 9 1 v xs.length (xs.map Value.string)) (hs : a.eval s = v) (hx : a.eval x = .slice (some ⟨X.heap.size, 0, none⟩) 1 1) (hn : xs.length ≤ 1048576) (hbase : base ≤ X.heap.size)
    (h : ∀ g cap w', w'.ownsRow base 9 1 (.slice (some ⟨g, 0, none⟩) (xs.length + 1) cap) (xs ++ [y]).length ((xs ++ [y]).map Value.string) → Below base X w' → base ≤ w'.heap.size → wpList Try.prog ops Q rest (a.put o.dst (.slice (some ⟨g, 0, none⟩) (xs.length + 1) cap)) w') :
    wpList Try.prog ops Q (o :: rest) a (X.alloc (.cells #[.string y] 9)) := by
  obtain ⟨i0, hi, hzz⟩ := Option.map_eq_some_iff.1 infoTxt
  simp only [Prod.mk.injEq] at hzz
  obtain ⟨hz0, hz1, hz2⟩ := hzz
  refine wpList_append_lies _ hgd s x 24 ho base 9 i0 (.string ⟨#[]⟩) 1 16 Try.underlying24 hi hz0 hz1 hz2 rfl (by decide) v xs.length _ hs (hown.alloc _) ⟨X.heap.size, 0, none⟩ 1 1 [.string y] hx rfl ?_ ?_ (by decide) ?_ ?_ ?_ _ rfl ?_
  · intro j u hj
    match j, hj with
    | 0, hj => simp at hj; subst hj; rw [show (⟨X.heap.size, 0, none⟩ : Addr).add 0 = ⟨X.heap.size, 0, none⟩ from rfl, World.cell?_alloc_new]; rfl
  · intro u hu; simp at hu; subst hu; rfl
  · unfold maxLen; omega
  · omega
  · simp; omega
  · intro g cap w' hown' hgrow hat hlt
    have hb : Below base X w' := own_stepT (hown.alloc _) ((Below.refl _ _).alloc hbase _) (by simp; omega) hgrow
    exact h g cap w' (by simpa using hown') hb (Nat.le_trans hbase hb.size)
/-- The marks from a number on. -/
def markTs (k n : Nat) : List ByteArray := (List.range n).map fun i => markStr (k + i)
theorem markTs_len (k n : Nat) : (markTs k n).length = n := by simp [markTs]
theorem markTs_at (k n i : Nat) (h : i < (markTs k n).length) : (markTs k n)[i] = markStr (k + i) := by simp [markTs]
end Go.Proofs.Ytnacdfoejmjlgaa.txt
