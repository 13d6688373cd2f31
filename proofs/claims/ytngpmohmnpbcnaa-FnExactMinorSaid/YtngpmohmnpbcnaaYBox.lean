/-
  Three cells of a block that a call may write; parts of slices of whole numbers.
-/
import Derived.Test.YtngpmohmnpbcnaaInts
namespace Go.Proofs.Ytngpmohmnpbcnaa.nu
open Go.RowKit
open ints

structure Tri (b : Nat) (x0 x1 x2 : Value) (w : World) : Prop where
  c0 : w.cell? ⟨b, 0, none⟩ = some x0
  c1 : w.cell? ⟨b, 1, none⟩ = some x1
  c2 : w.cell? ⟨b, 2, none⟩ = some x2
  free : ∀ k, w.frozen? ⟨b, k, none⟩ = false
theorem Tri.lt {b : Nat} {x0 x1 x2 : Value} {w : World} (h : Tri b x0 x1 x2 w) : b < w.heap.size := World.block_lt_of_cell? w _ h.c0
theorem Tri.later {b B : Nat} {x0 x1 x2 : Value} {w w' : World} (h : Tri b x0 x1 x2 w) (hb : Below B w w') (hB : b < B) : Tri b x0 x1 x2 w' :=
  ⟨by rw [hb.cell (p := ⟨b, 0, none⟩) hB]; exact h.c0, by rw [hb.cell (p := ⟨b, 1, none⟩) hB]; exact h.c1, by rw [hb.cell (p := ⟨b, 2, none⟩) hB]; exact h.c2, fun k => by rw [hb.frozen (p := ⟨b, k, none⟩) hB]; exact h.free k⟩
theorem Tri.below {b : Nat} {x0 x1 x2 : Value} {w w' : World} (h : Tri b x0 x1 x2 w) (hb : Below w.heap.size w w') : Tri b x0 x1 x2 w' := h.later hb h.lt
theorem Tri.grown {b r : Nat} {x0 x1 x2 : Value} {w w' : World} (h : Tri b x0 x1 x2 w) (hg : w.grownBy w' (some r)) (hr : b ≠ r) : Tri b x0 x1 x2 w' := by
  have hbk := hg.block b h.lt (fun q => hr (Option.some.inj q))
  exact ⟨by rw [World.cell?_of_block (a := ⟨b, 0, none⟩) hbk]; exact h.c0, by rw [World.cell?_of_block (a := ⟨b, 1, none⟩) hbk]; exact h.c1, by rw [World.cell?_of_block (a := ⟨b, 2, none⟩) hbk]; exact h.c2, fun k => by rw [World.frozen?_of_block (a := ⟨b, k, none⟩) hbk]; exact h.free k⟩
theorem Tri.start (w : World) (x0 x1 x2 : Value) (T : TypeId) : Tri w.heap.size x0 x1 x2 (w.alloc (.cells #[x0, x1, x2] T)) :=
  ⟨by rw [World.cell?_alloc_new]; rfl, by rw [World.cell?_alloc_new]; rfl, by rw [World.cell?_alloc_new]; rfl, fun k => World.frozen?_alloc_new _ _ _ _⟩
theorem cell_ne (b : Nat) (i j : Nat) (h : i ≠ j) : (⟨b, i, none⟩ : Addr) ≠ ⟨b, j, none⟩ := fun q => h (by simpa using congrArg Addr.off q)
theorem cell_ne2 (b c : Nat) (i j : Nat) (h : b ≠ c) : (⟨b, i, none⟩ : Addr) ≠ ⟨c, j, none⟩ := fun q => h (by simpa using congrArg Addr.block q)
theorem Tri.set0 {b : Nat} {x0 x1 x2 : Value} {w : World} (h : Tri b x0 x1 x2 w) (y : Value) : Tri b y x1 x2 (w.setCell ⟨b, 0, none⟩ y) :=
  ⟨World.cell?_setCell_same _ _ _ h.c0, by rw [World.cell?_setCell_other _ _ _ _ (cell_ne b 0 1 (by decide))]; exact h.c1, by rw [World.cell?_setCell_other _ _ _ _ (cell_ne b 0 2 (by decide))]; exact h.c2, fun k => by rw [World.frozen?_setCell]; exact h.free k⟩
theorem Tri.set1 {b : Nat} {x0 x1 x2 : Value} {w : World} (h : Tri b x0 x1 x2 w) (y : Value) : Tri b x0 y x2 (w.setCell ⟨b, 1, none⟩ y) :=
  ⟨by rw [World.cell?_setCell_other _ _ _ _ (cell_ne b 1 0 (by decide))]; exact h.c0, World.cell?_setCell_same _ _ _ h.c1, by rw [World.cell?_setCell_other _ _ _ _ (cell_ne b 1 2 (by decide))]; exact h.c2, fun k => by rw [World.frozen?_setCell]; exact h.free k⟩
theorem Tri.set2 {b : Nat} {x0 x1 x2 : Value} {w : World} (h : Tri b x0 x1 x2 w) (y : Value) : Tri b x0 x1 y (w.setCell ⟨b, 2, none⟩ y) :=
  ⟨by rw [World.cell?_setCell_other _ _ _ _ (cell_ne b 2 0 (by decide))]; exact h.c0, by rw [World.cell?_setCell_other _ _ _ _ (cell_ne b 2 1 (by decide))]; exact h.c1, World.cell?_setCell_same _ _ _ h.c2, fun k => by rw [World.frozen?_setCell]; exact h.free k⟩
theorem Tri.aside {b c o : Nat} {x0 x1 x2 : Value} {w : World} (h : Tri b x0 x1 x2 w) (y : Value) (hc : c ≠ b) : Tri b x0 x1 x2 (w.setCell ⟨c, o, none⟩ y) :=
  ⟨by rw [World.cell?_setCell_other _ _ _ _ (cell_ne2 c b o 0 hc)]; exact h.c0, by rw [World.cell?_setCell_other _ _ _ _ (cell_ne2 c b o 1 hc)]; exact h.c1, by rw [World.cell?_setCell_other _ _ _ _ (cell_ne2 c b o 2 hc)]; exact h.c2, fun k => by rw [World.frozen?_setCell]; exact h.free k⟩
/-- All three are written. -/
def put3 (w : World) (b : Nat) (y0 y1 y2 : Value) : World := ((w.setCell ⟨b, 0, none⟩ y0).setCell ⟨b, 1, none⟩ y1).setCell ⟨b, 2, none⟩ y2
theorem Tri.put {b : Nat} {x0 x1 x2 : Value} {w : World} (h : Tri b x0 x1 x2 w) (y0 y1 y2 : Value) : Tri b y0 y1 y2 (((w.setCell ⟨b, 0, none⟩ y0).setCell ⟨b, 1, none⟩ y1).setCell ⟨b, 2, none⟩ y2) := ((h.set0 y0).set1 y1).set2 y2
theorem put_below {B b : Nat} {w w' : World} (h : Below B w w') (hb : B ≤ b) (y0 y1 y2 : Value) : Below B w (((w'.setCell ⟨b, 0, none⟩ y0).setCell ⟨b, 1, none⟩ y1).setCell ⟨b, 2, none⟩ y2) :=
  ((h.setCell (p := ⟨b, 0, none⟩) hb _).setCell (p := ⟨b, 1, none⟩) hb _).setCell (p := ⟨b, 2, none⟩) hb _
theorem put_grown (w : World) (b : Nat) (y0 y1 y2 : Value) : w.grownBy (((w.setCell ⟨b, 0, none⟩ y0).setCell ⟨b, 1, none⟩ y1).setCell ⟨b, 2, none⟩ y2) (some b) :=
  grown_trans (grown_trans (grown_set _ _ _ _) (grown_set _ _ _ _)) (grown_set _ _ _ _)
theorem Nums.part {w : World} {b off : Nat} {vs : List Int} (h : Nums w (some ⟨b, off, none⟩) vs) (k m : Nat) : Nums w (some ⟨b, off + k, none⟩) ((vs.drop k).take m) := fun i hi => by
  rw [List.length_take, List.length_drop] at hi
  obtain ⟨b', off', e, h0⟩ := h (k + i) (by omega)
  simp at e
  obtain ⟨rfl, rfl⟩ := e
  refine ⟨b, off + k, rfl, ?_⟩
  rw [Nat.add_assoc, h0]
  simp
theorem Nums.rest {w : World} {b off : Nat} {vs : List Int} (h : Nums w (some ⟨b, off, none⟩) vs) (k : Nat) : Nums w (some ⟨b, off + k, none⟩) (vs.drop k) := by
  have h1 := Nums.part h k (vs.length - k)
  rw [List.take_of_length_le (by rw [List.length_drop]; exact Nat.le_refl _)] at h1
  exact h1
end Go.Proofs.Ytngpmohmnpbcnaa.nu
