/-
  What the program's Flush returns: the lines with one of them sent, in new memory; nothing that was there is written.
-/
import Derived.Test.YtjlhendeofhdlaaFlush1
namespace Go.Proofs.Ytjlhendeofhdlaa.dev
open Go.RowKit Go.Maps
open later

def flushLn (p : Int) (l : Ln) : Ln := if l.place = p then ⟨l.place, l.data, l.data⟩ else l
def flushL (ls : List Ln) (p : Int) : List Ln := ls.map (flushLn p)
theorem flushLn_place (p : Int) (l : Ln) : (flushLn p l).place = l.place := by unfold flushLn; split <;> rfl
theorem flushL_len (ls : List Ln) (p : Int) : (flushL ls p).length = ls.length := by simp [flushL]
theorem flushL_find (ls : List Ln) (p q : Int) : findAt (flushL ls p) q = (findAt ls q).map (flushLn p) := by
  unfold findAt flushL
  rw [List.find?_map]
  congr 1
  have : ((fun l : Ln => l.place == q) ∘ flushLn p) = fun l => l.place == q := by
    funext l
    simp [flushLn_place]
  rw [this]
theorem flushL_sorted (ls : List Ln) (p : Int) (h : ls.Pairwise (fun a b => a.place < b.place)) : (flushL ls p).Pairwise (fun a b => a.place < b.place) := by
  unfold flushL
  rw [List.pairwise_map]
  exact h.imp fun h => by rw [flushLn_place, flushLn_place]; exact h
theorem place_ok {safe : ByteArray} {ls : List Ln} (h : DevOk safe ls) : ∀ l ∈ ls, 0 ≤ l.place ∧ l.place < ((safe.size / 64 : Nat) : Int) := by
  intro l hl
  obtain ⟨i, hi, rfl⟩ := List.getElem_of_mem hl
  have := h.2.2.2 i hi
  exact ⟨this.2.1, this.2.2.1⟩
theorem flush_order {safe : ByteArray} {ls : List Ln} (h : DevOk safe ls) (p : Int) (f : Int → Option Ln) (hf : ∀ q, f q = (byPlace ls q).map (flushLn p)) : inOrder f (safe.size / 64) = flushL ls p := by
  have hp := ok_pairwise h
  refine inOrder_all (flushL ls p) (flushL_sorted ls p hp) (fun l hl => ?_) f (fun q => ?_) _ (fun l hl => ?_)
  · obtain ⟨x, hx, rfl⟩ := List.mem_map.1 hl
    rw [flushLn_place]; exact (place_ok h x hx).1
  · rw [hf q, byPlace_find hp, flushL_find]
  · obtain ⟨x, hx, rfl⟩ := List.mem_map.1 hl
    rw [flushLn_place]; exact (place_ok h x hx).2
theorem flush_upd {safe : ByteArray} {ls : List Ln} (h : DevOk safe ls) (p : Int) (l : Ln) (hl : byPlace ls p = some l) : ∀ q, (upd (byPlace ls) p (some ⟨l.place, l.data, l.data⟩)) q = (byPlace ls q).map (flushLn p) := by
  intro q
  have hp := ok_pairwise h
  unfold upd
  by_cases e : q = p
  · subst e
    rw [if_pos rfl, hl]
    have : l.place = q := by
      rw [byPlace_find hp] at hl
      have := List.find?_some hl
      simpa using this
    simp [flushLn, this]
  · rw [if_neg e]
    cases hq : byPlace ls q with
    | none => rfl
    | some x =>
      have : x.place = q := by
        rw [byPlace_find hp] at hq
        have := List.find?_some hq
        simpa using this
      simp [flushLn, this, e]
theorem flush_none {safe : ByteArray} {ls : List Ln} (h : DevOk safe ls) (p : Int) (hl : byPlace ls p = none) : ∀ q, (byPlace ls) q = (byPlace ls q).map (flushLn p) := by
  intro q
  have hp := ok_pairwise h
  cases hq : byPlace ls q with
  | none => rfl
  | some x =>
    have : x.place = q := by
      rw [byPlace_find hp] at hq
      have := List.find?_some hq
      simpa using this
    have e : x.place ≠ p := fun e => by rw [← e, this, hq] at hl; cases hl
    simp [flushLn, e]

end Go.Proofs.Ytjlhendeofhdlaa.dev
