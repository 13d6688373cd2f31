/-
  Bytes laid over others: what a copy out of a text leaves.
-/
import Derived.Test.YtjdlphebnhkghaaBb
import Derived.Test.YtjdlphebnhkghaaInts
import Derived.Lib.LazyBuf
import Derived.Outline
namespace Go.Proofs.Ytjdlphebnhkghaa.pt
open Go.RowKit
open bb

/-- A text with other bytes from a place on. -/
def putAt (l : List UInt8) (o : Nat) (t : List UInt8) : List UInt8 := l.take o ++ t ++ l.drop (o + t.length)
theorem putAt_len (l : List UInt8) (o : Nat) (t : List UInt8) (h : o + t.length ≤ l.length) : (putAt l o t).length = l.length := by
  simp [putAt]; omega
def cellsOfText (t : ByteArray) : List Value := t.data.toList.map fun x => Value.int .u8 (x.toNat : Int)
theorem putAt_get (l : List UInt8) (o : Nat) (t : List UInt8) (j : Nat) (h : o + t.length ≤ l.length) : (putAt l o t)[j]? = if j < o then l[j]? else if j < o + t.length then t[j - o]? else l[j]? := by
  have hmo : (l.take o).length = o := by simp; omega
  unfold putAt
  by_cases h1 : j < o
  · rw [if_pos h1, List.append_assoc, List.getElem?_append_left (by omega), List.getElem?_take, if_pos h1]
  · rw [if_neg h1]
    by_cases h2 : j < o + t.length
    · rw [if_pos h2, List.getElem?_append_left (by rw [List.length_append, hmo]; exact h2), List.getElem?_append_right (by omega), hmo]
    · rw [if_neg h2, List.getElem?_append_right (by rw [List.length_append, hmo]; omega), List.length_append, hmo, List.getElem?_drop]
      congr 1
      omega
theorem bytes_splice {w : World} {g : Nat} {l : List UInt8} (h : Bytes w g l) (o : Nat) (t : ByteArray) (ho : o + t.data.toList.length ≤ l.length) : Bytes (w.setCells g o (cellsOfText t)) g (putAt l o t.data.toList) := by
  intro j hj
  have hget := putAt_get l o t.data.toList j ho
  rw [List.getElem?_eq_getElem hj] at hget
  rw [putAt_len l o _ ho] at hj
  have hlen : (cellsOfText t).length = t.data.toList.length := by simp [cellsOfText]
  rw [World.frozen?_setCells]
  refine ⟨?_, (h j hj).2⟩
  by_cases h1 : j < o
  · rw [if_pos h1, List.getElem?_eq_getElem hj] at hget
    rw [World.cell?_setCells_out g _ o w ⟨g, j, none⟩ (fun _ _ => .inl h1), (h j hj).1, Option.some.inj hget]
  · rw [if_neg h1] at hget
    by_cases h2 : j < o + t.data.toList.length
    · rw [if_pos h2, List.getElem?_eq_getElem (by omega)] at hget
      have hi : j - o < (cellsOfText t).length := by omega
      have := World.cell?_setCells_in g _ o w (fun q hq => by rw [(h (o + q) (by omega)).1]; rfl) (j - o) hi
      rw [show o + (j - o) = j by omega] at this
      rw [this, Option.some.inj hget]
      simp [cellsOfText]
    · rw [if_neg h2, List.getElem?_eq_getElem hj] at hget
      rw [World.cell?_setCells_out g _ o w ⟨g, j, none⟩ (fun _ _ => .inr (by rw [hlen]; show o + t.data.toList.length ≤ j; omega)), (h j hj).1, Option.some.inj hget]

theorem heap_set (w : World) (g o : Nat) (v : Value) (b : Nat) (h : b ≠ g) : (w.setCell ⟨g, o, none⟩ v).heap[b]? = w.heap[b]? := Below.heap_setCell _ _ _ _ h
theorem heap_sets (g b : Nat) (h : b ≠ g) : ∀ (vs : List Value) (o : Nat) (w : World), (w.setCells g o vs).heap[b]? = w.heap[b]?
  | [], _, _ => rfl
  | v :: r, o, w => by rw [World.setCells, heap_sets g b h r, heap_set w g o v b h]
theorem grown_cells (g : Nat) : ∀ (vs : List Value) (o : Nat) (w : World), w.grownBy (w.setCells g o vs) (some g)
  | [], _, w => ints.grown_refl w _
  | v :: r, o, w => by rw [World.setCells]; exact ints.grown_trans (ints.grown_set w g o v) (grown_cells g r (o + 1) _)
theorem size8 : ∀ w, (Go.sizeOf 5).run Try.prog w = .ok 1 w := fun w => by kernel_rfl

theorem copy_run (w : World) (g o dLen dCap : Nat) (l : List UInt8) (dt : ByteArray) (ty : TypeId) (hB : Bytes w g l) (ho : o + dt.data.toList.length ≤ l.length) (hd : dt.data.toList.length ≤ dLen) :
    (Builtin.copy_ #[28, 9] ty #[.slice (some ⟨g, o, none⟩) dLen dCap, .string dt]).run Try.prog w = .ok (goInt dt.size) (w.setCells g o (cellsOfText dt)) := by
  have hz : dt.size = dt.data.toList.length := by simp
  exact Go.run_copy_string (P := Try.prog) w 28 9 ty 5 g o dLen dCap dt Try.underlying28 size8 (by omega) (fun j hj => by rw [(hB (o + j) (by omega)).1]; rfl) (fun j hj => (hB (o + j) (by omega)).2)
theorem below_cells {B g : Nat} {a w : World} (h : Below B a w) (hg : B ≤ g) (o : Nat) (vs : List Value) : Below B a (w.setCells g o vs) := Go.below_setCells hg vs o w h
theorem size_cells (g : Nat) : ∀ (vs : List Value) (o : Nat) (w : World), (w.setCells g o vs).heap.size = w.heap.size
  | [], _, _ => rfl
  | v :: r, o, w => by rw [World.setCells, size_cells g r]; simp
theorem cell_aside (w : World) (g o : Nat) (vs : List Value) (b j : Nat) (h : b ≠ g) : (w.setCells g o vs).cell? ⟨b, j, none⟩ = w.cell? ⟨b, j, none⟩ :=
  World.cell?_of_block (a := ⟨b, j, none⟩) (heap_sets g b h vs o w)
end Go.Proofs.Ytjdlphebnhkghaa.pt
