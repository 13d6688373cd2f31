/-
  More of the specification's reader: numbers near a range or just outside, hurt texts.
-/
import Derived.Test.YteafgnggmpjdmaaDoorRd2
import Derived.Deep.RegionWith
namespace Go.Proofs.YteafgnggmpjdmaaDoor.rd
open Go.RowKit
open wmath

theorem of_four (x0 x1 x2 x3 : ByteArray) (h0 : x0.size = 1) (h1 : x1.size = 1) (h2 : x2.size = 1) (h3 : x3.size = 1) (u : Nat) (hu : (u : Int) < 4) :
    ∃ x : ByteArray, x.size = 1 ∧ #[Value.string x0, .string x1, .string x2, .string x3][u]? = some (.string x) := by
  have hcase : u = 0 ∨ u = 1 ∨ u = 2 ∨ u = 3 := by omega
  rcases hcase with rfl | rfl | rfl | rfl
  · exact ⟨x0, h0, rfl⟩
  · exact ⟨x1, h1, rfl⟩
  · exact ⟨x2, h2, rfl⟩
  · exact ⟨x3, h3, rfl⟩

theorem tbl_cell {w2 w3 : World} {R u : Nat} {C : Array Value} {T : TypeId} {x : Value} (h : (w2.alloc (.cells C T)).drew.grownBy w3 (some R)) (hR : R < w2.heap.size) (hx : C[u]? = some x) : w3.cell? ⟨w2.heap.size, u, none⟩ = some x := by
  refine h.cell (a := ⟨w2.heap.size, u, none⟩) ?_ (fun e => Nat.ne_of_gt hR (by simpa using e))
  show (w2.alloc (.cells C T)).cell? ⟨w2.heap.size, u, none⟩ = _
  rw [World.cell?_alloc_new]; exact hx
theorem Rd.drew {w : World} {R : Nat} {a : Option Addr} {len cap : Nat} (h : Rd w R a len cap) : Rd w.drew R a len cap := h.draws 1
theorem gdrew {a w : World} {row : Option Nat} (h : a.grownBy w row) : a.grownBy w.drew row := gdraws h 1

end Go.Proofs.YteafgnggmpjdmaaDoor.rd
