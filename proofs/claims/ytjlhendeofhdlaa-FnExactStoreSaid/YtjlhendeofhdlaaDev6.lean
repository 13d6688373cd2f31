/-
  Lines laid over a text: what the program's and the specification's Seen return; nothing that was there is written.
-/
import Derived.Test.YtjlhendeofhdlaaDev4
import Derived.Test.YtjlhendeofhdlaaDev5
import Derived.Test.YtjlhendeofhdlaaBb
import Derived.Lib.LazyBuf
import Derived.Outline
namespace Go.Proofs.Ytjlhendeofhdlaa.dev
open Go.RowKit
open bb later

/-- A text with other bytes from a place on. -/
def putAt (l : List UInt8) (o : Nat) (t : List UInt8) : List UInt8 := l.take o ++ t ++ l.drop (o + t.length)
theorem putAt_len (l : List UInt8) (o : Nat) (t : List UInt8) (h : o + t.length ≤ l.length) : (putAt l o t).length = l.length := by
  simp [putAt]; omega
def seenL (safe : List UInt8) (ls : List Ln) : List UInt8 := ls.foldl (fun acc l => putAt acc (64 * l.place.toNat) l.data.data.toList) safe
theorem seenL_snoc (safe : List UInt8) (ls : List Ln) (l : Ln) : seenL safe (ls ++ [l]) = putAt (seenL safe ls) (64 * l.place.toNat) l.data.data.toList := by
  unfold seenL; rw [List.foldl_append]; rfl
theorem seenL_take (safe : List UInt8) (ls : List Ln) (k : Nat) (hk : k < ls.length) : seenL safe (ls.take (k + 1)) = putAt (seenL safe (ls.take k)) (64 * ls[k].place.toNat) ls[k].data.data.toList := by
  rw [List.take_succ_eq_append_getElem hk, seenL_snoc]

def cellsOfText (t : ByteArray) : List Value := t.data.toList.map fun x => Value.int .u8 (x.toNat : Int)
theorem putAt_get (l : List UInt8) (o : Nat) (t : List UInt8) (j : Nat) (h : o + t.length ≤ l.length) : (putAt l o t)[j]? = if j < o then l[j]? else if j < o + t.length then t[j - o]? else l[j]? := by
  have hmo : (l.take o).length = o := by simp; omega
  unfold putAt
  by_cases h1 : j < o
  · rw [if_pos h1, List.append_assoc, List.getElem?_append_left (by omega), List.getElem?_take, if_pos h1]
  · rw [if_neg h1]
    by_cases h2 : j < o + t.length
    · rw [if_pos h2, List.getElem?_append_left (by rw [List.length_append, hmo]; exact h2), List.getElem?_append_right (by omega), hmo]
    · rw [if_neg h2, List.getElem?_append_right (by rw [List.length_append, hmo]; omega), List.length_append, hmo, List.getElem?_drop]
      congr 1
      omega
theorem bytes_splice {w : World} {g : Nat} {l : List UInt8} (h : Bytes w g l) (o : Nat) (t : ByteArray) (ho : o + t.data.toList.length ≤ l.length) : Bytes (w.setCells g o (cellsOfText t)) g (putAt l o t.data.toList) := by
  intro j hj
  have hget := putAt_get l o t.data.toList j ho
  rw [List.getElem?_eq_getElem hj] at hget
  rw [putAt_len l o _ ho] at hj
  have hlen : (cellsOfText t).length = t.data.toList.length := by simp [cellsOfText]
  rw [World.frozen?_setCells]
  refine ⟨?_, (h j hj).2⟩
  by_cases h1 : j < o
  · rw [if_pos h1, List.getElem?_eq_getElem hj] at hget
    rw [World.cell?_setCells_out g _ o w ⟨g, j, none⟩ (fun _ _ => .inl h1), (h j hj).1, Option.some.inj hget]
  · rw [if_neg h1] at hget
    by_cases h2 : j < o + t.data.toList.length
    · rw [if_pos h2, List.getElem?_eq_getElem (by omega)] at hget
      have hi : j - o < (cellsOfText t).length := by omega
      have := World.cell?_setCells_in g _ o w (fun q hq => by rw [(h (o + q) (by omega)).1]; rfl) (j - o) hi
      rw [show o + (j - o) = j by omega] at this
      rw [this, Option.some.inj hget]
      simp [cellsOfText]
    · rw [if_neg h2, List.getElem?_eq_getElem hj] at hget
      rw [World.cell?_setCells_out g _ o w ⟨g, j, none⟩ (fun _ _ => .inr (by rw [hlen]; show o + t.data.toList.length ≤ j; omega)), (h j hj).1, Option.some.inj hget]

theorem size8 : ∀ w, (Go.sizeOf 5).run Try.prog w = .ok 1 w := fun w => by kernel_rfl

theorem copy_run (w : World) (g o dLen dCap : Nat) (l : List UInt8) (dt : ByteArray) (ty : TypeId) (hB : Bytes w g l) (ho : o + dt.data.toList.length ≤ l.length) (hd : dt.data.toList.length ≤ dLen) :
    (Builtin.copy_ #[65, 9] ty #[.slice (some ⟨g, o, none⟩) dLen dCap, .string dt]).run Try.prog w = .ok (goInt dt.size) (w.setCells g o (cellsOfText dt)) := by
  have hz : dt.size = dt.data.toList.length := by simp
  exact Go.run_copy_string (P := Try.prog) w 65 9 ty 5 g o dLen dCap dt Try.underlying65 size8 (by omega) (fun j hj => by rw [(hB (o + j) (by omega)).1]; rfl) (fun j hj => (hB (o + j) (by omega)).2)
theorem below_cells {B g : Nat} {a w : World} (h : Below B a w) (hg : B ≤ g) (o : Nat) (vs : List Value) : Below B a (w.setCells g o vs) := Go.below_setCells hg vs o w h
theorem size_cells (g : Nat) : ∀ (vs : List Value) (o : Nat) (w : World), (w.setCells g o vs).heap.size = w.heap.size
  | [], _, _ => rfl
  | v :: r, o, w => by rw [World.setCells, size_cells g r]; simp

theorem prefix_ok {safe : ByteArray} {ls : List Ln} (h : DevOk safe ls) (k : Nat) : (seenL safe.data.toList (ls.take k)).length = safe.size := by
  induction k with
  | zero => simp [seenL]
  | succ k ih =>
    by_cases hk : k < ls.length
    · have hl := h.2.2.2 k hk
      rw [seenL_take _ _ _ hk, putAt_len _ _ _ (by rw [ih]; have h4 := hl.2.2.2.1; have h3 := hl.2.2.1; have h2 := hl.2.1; have h1 := h.1; simp; omega), ih]
    · rw [List.take_of_length_le (by omega)]
      rw [List.take_of_length_le (by omega)] at ih
      exact ih
def seenStr (safe : ByteArray) (ls : List Ln) : ByteArray := ⟨(seenL safe.data.toList ls).toArray⟩

end Go.Proofs.Ytjlhendeofhdlaa.dev
