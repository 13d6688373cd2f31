/-
  What an eviction leaves: the lines without one, and the text with its data; and what stays of bytes and maps when other memory is written.
-/
import Derived.Test.YtgpmpijaggnocaaFlush2
import Derived.Test.YtgpmpijaggnocaaCrash1
import Derived.Test.YtgpmpijaggnocaaBb
namespace Go.Proofs.Ytgpmpijaggnocaa.dev
open Go.RowKit Go.Maps
open bb later

theorem grown_cells (g : Nat) : ∀ (vs : List Value) (o : Nat) (w : World), w.grownBy (w.setCells g o vs) (some g)
  | [], _, w => grown_refl w _
  | v :: r, o, w => by rw [World.setCells]; exact grown_trans (grown_set w g o v) (grown_cells g r (o + 1) _)
theorem bytes_grown {w w' : World} {g r : Nat} {l : List UInt8} (h : Bytes w g l) (hg : w.grownBy w' (some r)) (hne : g ≠ r) : Bytes w' g l := by
  intro j hj
  obtain ⟨hc, hf⟩ := h j hj
  have heq : w'.heap[g]? = w.heap[g]? := hg.block g (World.block_lt_of_cell? w _ hc) (by intro q; injection q with q; exact hne q)
  exact ⟨by simp only [World.cell?, heq] at hc ⊢; exact hc, by simp only [World.frozen?, heq] at hf ⊢; exact hf⟩
theorem bytes_set2 {w : World} {g b : Nat} {l : List UInt8} (h : Bytes w g l) (hne : g ≠ b) (S V : Value) : Bytes ((w.setCell ⟨b, 0, none⟩ S).setCell ⟨b, 1, none⟩ V) g l :=
  bytes_grown (bytes_grown h (grown_set w b 0 S) hne) (grown_set _ b 1 V) hne

/-- A text with other bytes from a place on. -/
def withAt (s : ByteArray) (o : Nat) (d : ByteArray) : ByteArray := ⟨(putAt s.data.toList o d.data.toList).toArray⟩
theorem withAt_size (s : ByteArray) (o : Nat) (d : ByteArray) (h : o + d.size ≤ s.size) : (withAt s o d).size = s.size := by
  have h1 := putAt_len s.data.toList o d.data.toList (by simpa using h)
  have h2 : (withAt s o d).size = (putAt s.data.toList o d.data.toList).length := by simp [withAt, ByteArray.size]
  rw [h2, h1]
  simp
theorem withAt_eq (s : ByteArray) (o : Nat) (d : ByteArray) : s.extract 0 o ++ d ++ s.extract (o + d.size) s.size = withAt s o d := by
  apply ByteArray.ext
  apply Array.ext'
  have hd : d.data.toList.length = d.size := by simp
  have hs : s.data.toList.length = s.size := by simp
  simp only [withAt, putAt, ByteArray.data_append, ByteArray.data_extract, Array.toList_append, Array.toList_extract, List.extract_eq_take_drop, hd]
  simp only [Nat.sub_zero, List.drop_zero]
  congr 1
  rw [List.take_of_length_le (by simp)]

def evictL (ls : List Ln) (p : Int) : List Ln := ls.filter fun l => decide (l.place ≠ p)
def evictS (safe : ByteArray) (ls : List Ln) (p : Int) : ByteArray := match findAt ls p with
  | some l => withAt safe (64 * p.toNat) l.data
  | none => safe
theorem evictL_le (ls : List Ln) (p : Int) : (evictL ls p).length ≤ ls.length := List.length_filter_le _ _
theorem evictL_sorted (ls : List Ln) (p : Int) (h : ls.Pairwise (fun a b => a.place < b.place)) : (evictL ls p).Pairwise (fun a b => a.place < b.place) := h.filter _
theorem evictL_find (ls : List Ln) (p q : Int) : findAt (evictL ls p) q = if q = p then none else findAt ls q := by
  unfold findAt evictL
  rw [List.find?_filter]
  split
  · rename_i e
    subst e
    rw [List.find?_eq_none]
    intro l _
    simp
  · rename_i e
    congr 1
    funext l
    by_cases h : l.place = q
    · simp [h, e]
    · simp [h]
theorem evict_order {safe : ByteArray} {ls : List Ln} (h : DevOk safe ls) (p : Int) (f : Int → Option Ln) (hf : ∀ q, f q = if q = p then none else byPlace ls q) : inOrder f (safe.size / 64) = evictL ls p := by
  have hp := ok_pairwise h
  refine inOrder_all (evictL ls p) (evictL_sorted ls p hp) (fun l hl => ?_) f (fun q => ?_) _ (fun l hl => ?_)
  · exact (place_ok h l (List.mem_filter.1 hl).1).1
  · rw [hf q, byPlace_find hp, evictL_find]
  · exact (place_ok h l (List.mem_filter.1 hl).1).2
theorem evict_upd (ls : List Ln) (p : Int) : ∀ q, (upd (byPlace ls) p none) q = if q = p then none else byPlace ls q := fun _ => rfl
theorem evict_none {ls : List Ln} (p : Int) (hl : byPlace ls p = none) : ∀ q, (byPlace ls) q = if q = p then none else byPlace ls q := by
  intro q
  split
  · rename_i e; subst e; exact hl
  · rfl
theorem find_ok {safe : ByteArray} {ls : List Ln} (h : DevOk safe ls) {p : Int} {l : Ln} (hl : findAt ls p = some l) : l.place = p ∧ l.data.size = 64 := by
  have h1 := List.find?_some hl
  have h2 := List.mem_of_find?_eq_some hl
  obtain ⟨i, hi, rfl⟩ := List.getElem_of_mem h2
  exact ⟨by simpa using h1, (h.2.2.2 i hi).2.2.2.1⟩
end Go.Proofs.Ytgpmpijaggnocaa.dev
