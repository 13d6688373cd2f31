/-
  A device that is written over with marks: only the block of its lines and new memory change. Whole numbers in a slice: copied, found alike, written over with marks, and the marks found again.
-/
import Derived.Test.YtgpmpijaggnocaaDev2
import Derived.Test.YtgpmpijaggnocaaConv
import Derived.Laws.AppendOwn
import Derived.Laws.Rows
import Derived.RegionTactic
namespace Go.Proofs.Ytgpmpijaggnocaa.dev
open Go.RowKit

theorem grown_refl (w : World) (r : Option Nat) : w.grownBy w r := ⟨rfl, rfl, rfl, Nat.le_refl _, fun _ _ _ => rfl⟩
theorem grown_trans {a b c : World} {r : Option Nat} (h1 : a.grownBy b r) (h2 : b.grownBy c r) : a.grownBy c r :=
  ⟨h2.os.trans h1.os, h2.tape.trans h1.tape, h2.output.trans h1.output, Nat.le_trans h1.size h2.size, fun k hk hne => (h2.block k (Nat.lt_of_lt_of_le hk h1.size) hne).trans (h1.block k hk hne)⟩
theorem grown_below {a b : World} (r : Option Nat) (h : Below a.heap.size a b) : a.grownBy b r := ⟨h.os, h.tape, h.output, h.size, fun k hk _ => h.block k hk⟩
theorem grown_set (w : World) (g o : Nat) (v : Value) : w.grownBy (w.setCell ⟨g, o, none⟩ v) (some g) :=
  ⟨rfl, rfl, rfl, by simp, fun k _ hne => Below.heap_setCell _ _ _ _ (fun e => hne (by rw [e]))⟩
theorem below_of_grown {w w' : World} {B g : Nat} (h : w.grownBy w' (some g)) (hB : B ≤ w.heap.size) (hg : B ≤ g) : Below B w w' :=
  ⟨h.os, h.tape, h.output, h.size, fun k hk => h.block k (by omega) (fun e => by have := Option.some.inj e; omega)⟩
theorem Row.grown {w w' : World} {g m : Nat} (h : Row w g m) (hb : Below w.heap.size w w') : Row w' g m := fun j hj => by
  obtain ⟨⟨v, hv⟩, _⟩ := h j hj
  exact h.below hb (World.block_lt_of_cell? w _ hv) j hj

/-- Whole numbers in a slice that begins at a block's head, and that may be written. -/
def Ints (w : World) (a : Option Addr) (g : Nat) (xs : List Int) : Prop :=
  ∀ i (hi : i < xs.length), a = some ⟨g, 0, none⟩ ∧ w.cell? ⟨g, i, none⟩ = some (.int .i64 xs[i]) ∧ w.frozen? ⟨g, i, none⟩ = false
theorem Ints.grown {w w' : World} {a : Option Addr} {g r : Nat} {xs : List Int} (h : Ints w a g xs) (hg : w.grownBy w' (some r)) (hne : g ≠ r) : Ints w' a g xs := fun i hi => by
  obtain ⟨e, h0, h1⟩ := h i hi
  have hlt := World.block_lt_of_cell? w _ h0
  have hbk := hg.block g hlt (fun q => hne (Option.some.inj q))
  exact ⟨e, by rw [World.cell?_of_block (a := ⟨g, i, none⟩) hbk]; exact h0, by rw [World.frozen?_of_block (a := ⟨g, i, none⟩) hbk]; exact h1⟩
theorem Ints.below {w w' : World} {a : Option Addr} {g : Nat} {xs : List Int} (h : Ints w a g xs) (hb : Below w.heap.size w w') : Ints w' a g xs := fun i hi => by
  obtain ⟨e, h0, h1⟩ := h i hi
  have hlt := World.block_lt_of_cell? w _ h0
  exact ⟨e, by rw [hb.cell (p := ⟨g, i, none⟩) hlt]; exact h0, by rw [hb.frozen (p := ⟨g, i, none⟩) hlt]; exact h1⟩
theorem Ints.lt {w : World} {a : Option Addr} {g : Nat} {xs : List Int} (h : Ints w a g xs) (h0 : 0 < xs.length) : g < w.heap.size := World.block_lt_of_cell? w _ (h 0 h0).2.1
theorem Ints.grown2 {w w' : World} {a : Option Addr} {g r : Nat} {xs : List Int} (h : Ints w a g xs) (hg : w.grownBy w' (some r)) (hne : 0 < xs.length → g ≠ r) : Ints w' a g xs := by
  by_cases h0 : 0 < xs.length
  · exact h.grown hg (hne h0)
  · exact fun i hi => by omega
theorem ints_of_row {w : World} {base : Nat} {v : Value} {xs : List Int} (h : w.ownsRow base 2 1 v xs.length (xs.map (Value.int .i64))) : ∃ a g cap, v = .slice a xs.length cap ∧ base ≤ g ∧ Ints w a g xs := by
  rcases h.2 with ⟨rfl, h0⟩ | ⟨g, cap, cur, rfl, hb, hg, hc, hcm, hcs, ht⟩
  · exact ⟨none, base, 0, by rw [h0], Nat.le_refl _, fun i hi => by omega⟩
  · refine ⟨_, g, cap, rfl, hb, fun i hi => ⟨rfl, ?_, ?_⟩⟩
    · have hx : (cur.toList.take (xs.length * 1))[i]? = some (.int .i64 xs[i]) := by rw [ht]; simp [List.getElem?_eq_getElem hi]
      rw [List.getElem?_take, if_pos (by omega)] at hx
      rw [cell_of_row w g i cur 2 (0, 0) hg]
      simpa using hx
    · simp [World.frozen?, hg]
/-- The marks from a number on. -/
def marks (k n : Nat) : List Int := (List.range n).map fun i => ((k + i : Nat) : Int)
theorem marks_len (k n : Nat) : (marks k n).length = n := by simp [marks]
theorem marks_at (k n i : Nat) (h : i < (marks k n).length) : (marks k n)[i] = ((k + i : Nat) : Int) := by simp [marks]
end Go.Proofs.Ytgpmpijaggnocaa.dev
