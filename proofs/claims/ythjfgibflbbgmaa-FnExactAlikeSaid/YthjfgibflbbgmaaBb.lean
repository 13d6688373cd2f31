/-
  A text told as bytes in a new block; a byte of it turned; told as a text again.
-/
import Derived.Test.YthjfgibflbbgmaaRows
import Derived.WalkKit
import Derived.WalkSpells
import Derived.Below
import Derived.Deep.Draws
import Derived.Laws.IdiomStrings
namespace Go.Proofs.Ythjfgibflbbgmaa.bb
open Go.RowKit

/-- The block g holds these bytes, and they may be written. -/
def Bytes (w : World) (g : Nat) (l : List UInt8) : Prop :=
  ∀ j (hj : j < l.length), w.cell? ⟨g, j, none⟩ = some (.int .u8 (l[j].toNat : Int)) ∧ w.frozen? ⟨g, j, none⟩ = false

theorem plain_add (g j : Nat) : (⟨g, 0, none⟩ : Addr).add j = ⟨g, j, none⟩ := by unfold Addr.add; split <;> simp_all
theorem Bytes.below {w w' : World} {g B : Nat} {l : List UInt8} (h : Bytes w g l) (hb : Below B w w') (hg : g < B) : Bytes w' g l := fun j hj => by
  rw [hb.cell (p := ⟨g, j, none⟩) hg, hb.frozen (p := ⟨g, j, none⟩) hg]; exact h j hj
theorem Bytes.draws {w : World} {g : Nat} {l : List UInt8} (h : Bytes w g l) (n : Nat) : Bytes (w.drewN n) g l := h
theorem Bytes.set {w : World} {g : Nat} {l : List UInt8} (h : Bytes w g l) (i : Nat) (hi : i < l.length) (b : UInt8) (x : Value) (hx : x = .int .u8 (b.toNat : Int)) : Bytes (w.setCell ⟨g, i, none⟩ x) g (l.set i b) := by
  subst hx
  intro j hj
  have hj' : j < l.length := by simpa using hj
  rw [World.frozen?_setCell]
  refine ⟨?_, (h j hj').2⟩
  by_cases e : i = j
  · subst e
    rw [World.cell?_setCell_same _ _ _ (h i hi).1]
    simp
  · rw [World.cell?_setCell_other _ _ _ _ (fun q => e (congrArg Addr.off q)), (h j hj').1, List.getElem_set_ne e]
theorem Bytes.text {w : World} {g : Nat} {l : List UInt8} (h : Bytes w g l) (cap : Nat) :
    (convert 45 9 (.slice (some ⟨g, 0, none⟩) l.length cap)).run Try.prog w = .ok (.string ⟨l.toArray⟩) w :=
  run_convert_bytes_back w 45 9 5 ⟨g, 0, none⟩ cap l Try.underlying45 Try.underlying5 Try.underlying9 (fun j hj => by rw [plain_add]; exact (h j hj).1)

/-- How large the new row is, and the world behind it. -/
def capOf (w : World) (s : ByteArray) : Nat := grownCap w s.size 0 5
def told (w : World) (s : ByteArray) : World := w.drew.alloc (.cells (bytesRow s (capOf w s)) 5 ((bytesRow s (capOf w s)).size, (bytesRow s (capOf w s)).size + 1))
theorem run_told (s : ByteArray) (w : World) : (convert 9 45 (.string s)).run Try.prog w = .ok (.slice (some ⟨w.heap.size, 0, none⟩) s.size (capOf w s)) (told w s) :=
  run_bytes_of_string w 9 45 5 s Try.underlying9 Try.underlying45 Try.underlying5
theorem told_below (w : World) (s : ByteArray) : Below w.heap.size w (told w s) := by
  unfold told
  exact ((Below.refl _ _).drew).alloc (Nat.le_refl _) _
theorem told_size (w : World) (s : ByteArray) : (told w s).heap.size = w.heap.size + 1 := by
  unfold told
  simp
theorem told_bytes (w : World) (s : ByteArray) : Bytes (told w s) w.heap.size s.data.toList := by
  intro j hj
  have hc : s.size ≤ capOf w s := grownCap_ge _ _ _ _
  have hj' : j < s.size := by simpa using hj
  unfold told
  constructor
  · have := World.cell?_alloc_mark w.drew (bytesRow s (capOf w s)) 5 ((bytesRow s (capOf w s)).size, (bytesRow s (capOf w s)).size + 1) j
    rw [show w.drew.heap.size = w.heap.size from rfl] at this
    rw [this, bytesRow_at s _ j hj']
    simp
  · have := World.frozen?_alloc_mark w.drew (bytesRow s (capOf w s)) 5 ((bytesRow s (capOf w s)).size) ((bytesRow s (capOf w s)).size + 1) j
    rw [show w.drew.heap.size = w.heap.size from rfl] at this
    rw [this]
    have hz : (bytesRow s (capOf w s)).size = capOf w s := by simp [bytesRow]; omega
    rw [hz]
    simp
    omega
end Go.Proofs.Ythjfgibflbbgmaa.bb
