/-
  What the program's Flush returns: the lines with one of them sent, in new memory; nothing that was there is written.
-/
import Derived.Test.YtgpmpijaggnocaaSorted
import Derived.Test.YtgpmpijaggnocaaDev4
import Derived.Deep.RegionHeld3
import Derived.Deep.RegionWith
import Derived.RegionTactic
import Derived.ChangeAlike
namespace Go.Proofs.Ytgpmpijaggnocaa.dev
open Go.RowKit Go.Maps
open later

/-- The memory ahead of a function of devices with a device as its first result. -/
def start (w : World) (safe : ByteArray) (v : Value) : World := (w.alloc (.cells #[.string safe, v] 26)).alloc (.cells #[.string ⟨#[]⟩, .slice none 0 0] 26)
/-- What is known of it later on: the argument's box and the result's. -/
structure Start (w W : World) (safe : ByteArray) (v : Value) : Prop where
  size : W.heap.size = w.heap.size + 2
  below : Below w.heap.size w W
  arg0 : ∀ w', Below W.heap.size W w' → w'.cell? ⟨w.heap.size, 0, none⟩ = some (.string safe)
  arg1 : ∀ w', Below W.heap.size W w' → w'.cell? ⟨w.heap.size, 1, none⟩ = some v
  res0 : ∀ w', Below W.heap.size W w' → w'.cell? ⟨w.heap.size + 1, 0, none⟩ = some (.string ⟨#[]⟩)
  res1 : ∀ w', Below W.heap.size W w' → w'.cell? ⟨w.heap.size + 1, 1, none⟩ = some (.slice none 0 0)
  fro0 : ∀ w', Below W.heap.size W w' → w'.frozen? ⟨w.heap.size + 1, 0, none⟩ = false
  fro1 : ∀ w', Below W.heap.size W w' → w'.frozen? ⟨w.heap.size + 1, 1, none⟩ = false
theorem start_is (w : World) (safe : ByteArray) (v : Value) : Start w (start w safe v) safe v := by
  have hs : (start w safe v).heap.size = w.heap.size + 2 := by unfold start; simp
  refine ⟨hs, by unfold start; go_grown, ?_, ?_, ?_, ?_, ?_, ?_⟩
  · intro w' h; rw [h.cell (p := ⟨w.heap.size, 0, none⟩) (by show w.heap.size < _; omega)]; unfold start; rw [World.cell?_alloc_past _ _ _ (by simp), World.cell?_alloc_at _ _ _ _ rfl]; rfl
  · intro w' h; rw [h.cell (p := ⟨w.heap.size, 1, none⟩) (by show w.heap.size < _; omega)]; unfold start; rw [World.cell?_alloc_past _ _ _ (by simp), World.cell?_alloc_at _ _ _ _ rfl]; rfl
  · intro w' h; rw [h.cell (p := ⟨w.heap.size + 1, 0, none⟩) (by show w.heap.size + 1 < _; omega)]; unfold start; rw [World.cell?_alloc_at _ _ _ _ (by simp)]; rfl
  · intro w' h; rw [h.cell (p := ⟨w.heap.size + 1, 1, none⟩) (by show w.heap.size + 1 < _; omega)]; unfold start; rw [World.cell?_alloc_at _ _ _ _ (by simp)]; rfl
  · intro w' h; rw [h.frozen (p := ⟨w.heap.size + 1, 0, none⟩) (by show w.heap.size + 1 < _; omega)]; unfold start; rw [World.frozen?_alloc_at _ _ _ _ (by simp)]
  · intro w' h; rw [h.frozen (p := ⟨w.heap.size + 1, 1, none⟩) (by show w.heap.size + 1 < _; omega)]; unfold start; rw [World.frozen?_alloc_at _ _ _ _ (by simp)]
def Args (w w' : World) (safe : ByteArray) (v : Value) : Prop := w'.cell? ⟨w.heap.size, 0, none⟩ = some (.string safe) ∧ w'.cell? ⟨w.heap.size, 1, none⟩ = some v
theorem Start.args {w W w' : World} {safe : ByteArray} {v : Value} (h : Start w W safe v) (hb : Below W.heap.size W w') : Args w w' safe v := ⟨h.arg0 w' hb, h.arg1 w' hb⟩
theorem Start.args2 {w W w' : World} {safe : ByteArray} {v : Value} (h : Start w W safe v) (hb : Below W.heap.size W w') (S V : Value) : Args w ((w'.setCell ⟨w.heap.size + 1, 0, none⟩ S).setCell ⟨w.heap.size + 1, 1, none⟩ V) safe v := by
  have hne : ∀ i j : Nat, (⟨w.heap.size, i, none⟩ : Addr) ≠ ⟨w.heap.size + 1, j, none⟩ := fun i j q => by have := congrArg Addr.block q; simp at this
  constructor
  · rw [World.cell?_setCell_other _ _ _ _ (by first | exact hne _ _ | exact Ne.symm (hne _ _)), World.cell?_setCell_other _ _ _ _ (by first | exact hne _ _ | exact Ne.symm (hne _ _))]; exact h.arg0 w' hb
  · rw [World.cell?_setCell_other _ _ _ _ (by first | exact hne _ _ | exact Ne.symm (hne _ _)), World.cell?_setCell_other _ _ _ _ (by first | exact hne _ _ | exact Ne.symm (hne _ _))]; exact h.arg1 w' hb
/-- The result's box, written. -/
structure Ended (w wr : World) : Prop where
  at0 : ∀ S V : Value, ((wr.setCell ⟨w.heap.size + 1, 0, none⟩ S).setCell ⟨w.heap.size + 1, 1, none⟩ V).cell? ⟨w.heap.size + 1, 0, none⟩ = some S
  at1 : ∀ S V : Value, ((wr.setCell ⟨w.heap.size + 1, 0, none⟩ S).setCell ⟨w.heap.size + 1, 1, none⟩ V).cell? ⟨w.heap.size + 1, 1, none⟩ = some V
  below : ∀ S V : Value, Below w.heap.size w ((wr.setCell ⟨w.heap.size + 1, 0, none⟩ S).setCell ⟨w.heap.size + 1, 1, none⟩ V)
theorem Start.ended {w W wr : World} {safe : ByteArray} {v : Value} (h : Start w W safe v) (hb : Below W.heap.size W wr) : Ended w wr := by
  have hne2 : (⟨w.heap.size + 1, 0, none⟩ : Addr) ≠ ⟨w.heap.size + 1, 1, none⟩ := fun q => by have := congrArg Addr.off q; simp at this
  have hw : Below w.heap.size w wr := h.below.trans (hb.mono h.below.size)
  refine ⟨fun S V => ?_, fun S V => ?_, fun S V => ?_⟩
  · rw [World.cell?_setCell_other _ _ _ _ (Ne.symm hne2)]; exact World.cell?_setCell_same _ _ _ (h.res0 wr hb)
  · exact World.cell?_setCell_same _ _ _ (by rw [World.cell?_setCell_other _ _ _ _ hne2]; exact h.res1 wr hb)
  · exact (hw.setCell (p := ⟨w.heap.size + 1, 0, none⟩) (by show w.heap.size ≤ w.heap.size + 1; omega) _).setCell (p := ⟨w.heap.size + 1, 1, none⟩) (by show w.heap.size ≤ w.heap.size + 1; omega) _
/-- A row of lines that lies behind the result's box stays when the box is written. -/
theorem row_kept {w wr : World} {B : Nat} {v : Value} {n : Nat} {xs : List Value} (hB : w.heap.size + 2 ≤ B) (h : wr.ownsRow B 46 3 v n xs) (S V : Value) :
    ((wr.setCell ⟨w.heap.size + 1, 0, none⟩ S).setCell ⟨w.heap.size + 1, 1, none⟩ V).ownsRow w.heap.size 46 3 v n xs := by
  have hne : v.ownBlock = none ∨ some (w.heap.size + 1) ≠ v.ownBlock := by
    rcases hv : v.ownBlock with _ | k
    · exact .inl rfl
    · exact .inr (fun q => by have := (h.lt k hv).1; simp at q; omega)
  have h1 := h.kept (grown_set wr (w.heap.size + 1) 0 S) (by rcases hne with q | q; exact .inl q; exact .inr (Ne.symm q))
  have h2 := h1.kept (grown_set _ (w.heap.size + 1) 1 V) (by rcases hne with q | q; exact .inl q; exact .inr (Ne.symm q))
  refine ⟨h2.1, ?_⟩
  rcases h2.2 with q | ⟨g, cap, cur, q1, q2, q3⟩
  · exact .inl q
  · exact .inr ⟨g, cap, cur, q1, by omega, q3⟩
theorem row_shape {w : World} {B n : Nat} {e : TypeId} {v : Value} {xs : List Value} (h : w.ownsRow B e 3 v n xs) : ∃ aa cp, v = .slice aa n cp := by
  rcases h.2 with ⟨rfl, h0⟩ | ⟨g, cap, cur, rfl, _⟩
  · exact ⟨none, 0, by rw [h0]⟩
  · exact ⟨_, _, rfl⟩
end Go.Proofs.Ytgpmpijaggnocaa.dev
