/-
  What ReadSuper answers of a line.
-/
import Derived.Test.YtpkdkkjdlhillaaDoorCBox
namespace Go.Proofs.YtpkdkkjdlhillaaDoor.crc
open Go.RowKit
open wmath wb num kinds txt sh

def conV (b : Bool) (n1 n2 n3 : Int) (v : Value) : Value := .agg #[.int .i64 (if b = true then n1 else 0), .int .i64 (if b = true then n2 else 0), .int .i64 (if b = true then n3 else 0), v]
def supL (s : ByteArray) : List ByteArray := if supB s = true then supXs s else []
/-- What ReadSuper answers of a line of 64 bytes. -/
def SupAns (s : ByteArray) (w : World) (e : Ending) (w' : World) : Prop :=
  ∃ v, e = .returned (.tuple #[conV (supB s) (supN s 4) (supN s 6) (supN s 8) v, .bool (supB s)]) ∧ w'.ownsRow w.heap.size 9 1 v (supL s).length ((supL s).map Value.string) ∧ Below w.heap.size w w'
theorem supAns_no {s : ByteArray} {w w' : World} (h : supB s = false) (hb : Below w.heap.size w w') : SupAns s w (.returned (.tuple #[.agg #[.int .i64 0, .int .i64 0, .int .i64 0, .slice none 0 0], .bool false])) w' := by
  refine ⟨.slice none 0 0, ?_, ?_, hb⟩
  · unfold conV; rw [h]; rfl
  · unfold supL
    rw [h, if_neg (by decide)]
    exact ⟨rfl, .inl ⟨rfl, rfl⟩⟩
theorem row_mono {w : World} {B B' e z : Nat} {v : Value} {n : Nat} {xs : List Value} (h : w.ownsRow B e z v n xs) (hB : B' ≤ B) : w.ownsRow B' e z v n xs := by
  refine ⟨h.1, ?_⟩
  rcases h.2 with q | ⟨g, cap, cur, e, hg0, r⟩
  · exact .inl q
  · exact .inr ⟨g, cap, cur, e, by omega, r⟩
theorem row_far {w : World} {B e z b i : Nat} {v x : Value} {n : Nat} {xs : List Value} (h : w.ownsRow B e z v n xs) (hB : b < B) : (w.setCell ⟨b, i, none⟩ x).ownsRow B e z v n xs := by
  refine ⟨h.1, ?_⟩
  rcases h.2 with q | ⟨g, cap, cur, e, hg0, hg, r⟩
  · exact .inl q
  · exact .inr ⟨g, cap, cur, e, hg0, by rw [Below.heap_setCell _ _ _ _ (show g ≠ b by omega)]; exact hg, r⟩
/-- The four cells of an answer's block. -/
structure Four (w : World) (W : World) : Prop where
  below : Below w.heap.size w W
  lt : w.heap.size < W.heap.size
  cell : ∀ k v, #[Value.int .i64 0, .int .i64 0, .int .i64 0, .slice none 0 0][k]? = some v → W.cell? ⟨w.heap.size, k, none⟩ = some v
  free : ∀ k, W.frozen? ⟨w.heap.size, k, none⟩ = false
theorem Four.later {w W w' : World} (h : Four w W) (hb : Below W.heap.size W w') : Four w w' where
  below := h.below.trans (hb.mono h.below.size)
  lt := Nat.lt_of_lt_of_le h.lt hb.size
  cell := fun k v q => by rw [hb.cell (p := ⟨w.heap.size, k, none⟩) h.lt]; exact h.cell k v q
  free := fun k => by rw [hb.frozen (p := ⟨w.heap.size, k, none⟩) h.lt]; exact h.free k
theorem Four.start (w : World) (T : TypeId) : Four w (w.alloc (.cells #[.int .i64 0, .int .i64 0, .int .i64 0, .slice none 0 0] T)) where
  below := (Below.refl _ _).alloc (Nat.le_refl _) _
  lt := by simp
  cell := fun k v h => by rw [World.cell?_alloc_new]; exact h
  free := fun k => World.frozen?_alloc_new _ _ _ _
theorem Four.put {w W : World} (h : Four w W) (x0 x1 x2 x3 : Value) : Below w.heap.size w ((((W.setCell ⟨w.heap.size, 0, none⟩ x0).setCell ⟨w.heap.size, 1, none⟩ x1).setCell ⟨w.heap.size, 2, none⟩ x2).setCell ⟨w.heap.size, 3, none⟩ x3) :=
  (((h.below.setCell (p := ⟨w.heap.size, 0, none⟩) (Nat.le_refl _) x0).setCell (p := ⟨w.heap.size, 1, none⟩) (Nat.le_refl _) x1).setCell (p := ⟨w.heap.size, 2, none⟩) (Nat.le_refl _) x2).setCell (p := ⟨w.heap.size, 3, none⟩) (Nat.le_refl _) x3
end Go.Proofs.YtpkdkkjdlhillaaDoor.crc
