/-
  Two devices in boxes of their own, one that the specification made and one that the program made, as the law goes on: what is known of both.
-/
import Derived.Test.YtjlhendeofhdlaaFlush1
import Derived.Test.YtjlhendeofhdlaaHeld
namespace Go.Proofs.Ytjlhendeofhdlaa.dev
open Go.RowKit

theorem Lines.grown {w w' : World} {a : Option Addr} {ls : List Ln} {r : Nat} (h : Lines w a ls) (hg : w.grownBy w' (some r)) (hne : ∀ b off, a = some ⟨b, off, none⟩ → 0 < ls.length → b ≠ r) : Lines w' a ls := by
  intro i hi
  obtain ⟨b, off, e, c0, c1, c2⟩ := h i hi
  have hb : b ≠ r := hne b off e (by omega)
  have hlt := World.block_lt_of_cell? w _ c0
  have heq : w'.heap[b]? = w.heap[b]? := hg.block b hlt (by intro q; injection q with q; exact hb q)
  have hc : ∀ o, w'.cell? ⟨b, o, none⟩ = w.cell? ⟨b, o, none⟩ := fun o => by simp only [World.cell?, heq]
  exact ⟨b, off, e, by rw [hc]; exact c0, by rw [hc]; exact c1, by rw [hc]; exact c2⟩
theorem Lines.block {w : World} {a : Option Addr} {ls : List Ln} (h : Lines w a ls) : ∀ b off, a = some ⟨b, off, none⟩ → 0 < ls.length → b < w.heap.size := by
  intro b off e h0
  obtain ⟨b', off', e', c0, _⟩ := h 0 h0
  rw [e] at e'
  injection e' with q
  injection q with q1
  subst q1
  exact World.block_lt_of_cell? w _ c0

structure Trio (W w' : World) (b6 b9 : Nat) (st : ByteArray) (n : Nat) (a6 a9 : Option Addr) (c6 c9 : Nat) (L6 L9 : List Ln) (r9 : Nat) : Prop where
  fine : Below W.heap.size W w'
  s0 : w'.cell? ⟨b6, 0, none⟩ = some (.string st)
  s1 : w'.cell? ⟨b6, 1, none⟩ = some (.slice a6 n c6)
  g0 : w'.cell? ⟨b9, 0, none⟩ = some (.string st)
  g1 : w'.cell? ⟨b9, 1, none⟩ = some (.slice a9 n c9)
  l6 : Lines w' a6 L6
  l9 : Lines w' a9 L9
  row : Row w' r9 (n * 3)
theorem Trio.below {W w' w2 : World} {b6 b9 : Nat} {st : ByteArray} {n : Nat} {a6 a9 : Option Addr} {c6 c9 : Nat} {L6 L9 : List Ln} {r9 : Nat} (h : Trio W w' b6 b9 st n a6 a9 c6 c9 L6 L9 r9) (hb : Below w'.heap.size w' w2) : Trio W w2 b6 b9 st n a6 a9 c6 c9 L6 L9 r9 := by
  have k : ∀ (b o : Nat) (v : Value), w'.cell? ⟨b, o, none⟩ = some v → w2.cell? ⟨b, o, none⟩ = some v := fun b o v e => by
    rw [hb.cell (p := ⟨b, o, none⟩) (World.block_lt_of_cell? w' _ e)]; exact e
  exact ⟨h.fine.trans (hb.mono h.fine.size), k _ _ _ h.s0, k _ _ _ h.s1, k _ _ _ h.g0, k _ _ _ h.g1, h.l6.below hb, h.l9.below hb, h.row.grown hb⟩
theorem grown_cell {w w' : World} {r b o : Nat} {v : Value} (hg : w.grownBy w' (some r)) (hb : b ≠ r) (e : w.cell? ⟨b, o, none⟩ = some v) : w'.cell? ⟨b, o, none⟩ = some v := by
  have heq : w'.heap[b]? = w.heap[b]? := hg.block b (World.block_lt_of_cell? w _ e) (by intro q; injection q with q; exact hb q)
  simp only [World.cell?, heq] at e ⊢
  exact e
theorem row_grown {w w' : World} {g r m : Nat} (h : Row w g (m * 3)) (hg : w.grownBy w' (some r)) (hne : 0 < m → g ≠ r) : Row w' g (m * 3) := by
  intro j hj
  obtain ⟨⟨v, hv⟩, hf⟩ := h j hj
  have hb : g ≠ r := hne (by omega)
  have heq : w'.heap[g]? = w.heap[g]? := hg.block g (World.block_lt_of_cell? w _ hv) (by intro q; injection q with q; exact hb q)
  exact ⟨⟨v, grown_cell hg hb hv⟩, by simp only [World.frozen?, heq] at hf ⊢; exact hf⟩
theorem Trio.grown {W w' w2 : World} {b6 b9 r : Nat} {st : ByteArray} {n : Nat} {a6 a9 : Option Addr} {c6 c9 : Nat} {L6 L9 : List Ln} {r9 : Nat} (h : Trio W w' b6 b9 st n a6 a9 c6 c9 L6 L9 r9) (hg : w'.grownBy w2 (some r)) (hr : W.heap.size ≤ r) (h6 : b6 ≠ r) (h9 : b9 ≠ r)
    (k6 : ∀ b off, a6 = some ⟨b, off, none⟩ → 0 < L6.length → b ≠ r) (k9 : ∀ b off, a9 = some ⟨b, off, none⟩ → 0 < L9.length → b ≠ r) (kr : 0 < n → r9 ≠ r) : Trio W w2 b6 b9 st n a6 a9 c6 c9 L6 L9 r9 :=
  ⟨h.fine.trans (below_of_grown hg h.fine.size hr), grown_cell hg h6 h.s0, grown_cell hg h6 h.s1, grown_cell hg h9 h.g0, grown_cell hg h9 h.g1, h.l6.grown hg k6, h.l9.grown hg k9, row_grown h.row hg kr⟩
structure Duo (W w' : World) (b6 b9 : Nat) (st : ByteArray) (n : Nat) (a6 a9 : Option Addr) (c6 c9 : Nat) (L6 L9 : List Ln) : Prop where
  fine : Below W.heap.size W w'
  s0 : w'.cell? ⟨b6, 0, none⟩ = some (.string st)
  s1 : w'.cell? ⟨b6, 1, none⟩ = some (.slice a6 n c6)
  g0 : w'.cell? ⟨b9, 0, none⟩ = some (.string st)
  g1 : w'.cell? ⟨b9, 1, none⟩ = some (.slice a9 n c9)
  l6 : Lines w' a6 L6
  l9 : Lines w' a9 L9
theorem Duo.below {W w' w2 : World} {b6 b9 : Nat} {st : ByteArray} {n : Nat} {a6 a9 : Option Addr} {c6 c9 : Nat} {L6 L9 : List Ln} (h : Duo W w' b6 b9 st n a6 a9 c6 c9 L6 L9) (hb : Below w'.heap.size w' w2) : Duo W w2 b6 b9 st n a6 a9 c6 c9 L6 L9 := by
  have k : ∀ (b o : Nat) (v : Value), w'.cell? ⟨b, o, none⟩ = some v → w2.cell? ⟨b, o, none⟩ = some v := fun b o v e => by
    rw [hb.cell (p := ⟨b, o, none⟩) (World.block_lt_of_cell? w' _ e)]; exact e
  exact ⟨h.fine.trans (hb.mono h.fine.size), k _ _ _ h.s0, k _ _ _ h.s1, k _ _ _ h.g0, k _ _ _ h.g1, h.l6.below hb, h.l9.below hb⟩
/-- The program's lines are marked. -/
theorem Trio.marked {W w' w2 : World} {b6 b9 r : Nat} {st : ByteArray} {n : Nat} {a6 a9 : Option Addr} {c6 c9 : Nat} {L6 L9 M : List Ln} {r9 : Nat} (h : Trio W w' b6 b9 st n a6 a9 c6 c9 L6 L9 r9) (hg : w'.grownBy w2 (some r)) (hr : W.heap.size ≤ r) (h6 : b6 ≠ r) (h9 : b9 ≠ r)
    (k6 : ∀ b off, a6 = some ⟨b, off, none⟩ → 0 < L6.length → b ≠ r) (hm : Lines w2 a9 M) : Duo W w2 b6 b9 st n a6 a9 c6 c9 L6 M :=
  ⟨h.fine.trans (below_of_grown hg h.fine.size hr), grown_cell hg h6 h.s0, grown_cell hg h6 h.s1, grown_cell hg h9 h.g0, grown_cell hg h9 h.g1, h.l6.grown hg k6, hm⟩
end Go.Proofs.Ytjlhendeofhdlaa.dev
