/-
  Lines in memory: a slice of lines and what it reads as; the sizes of a device that is handed to a law.
-/
import Derived.Test.YtgpmpijaggnocaaRows
import Derived.WalkKit
import Derived.WalkSpells
import Derived.Handy
import Derived.Below
import Derived.Outline
namespace Go.Proofs.Ytgpmpijaggnocaa.dev
open Go.RowKit

/-- A line: its place, its data, what was sent. -/
structure Ln where
  place : Int
  data : ByteArray
  sent : ByteArray

/-- The cells of the i-th line, from the address on. -/
def LnAt (w : World) (a : Option Addr) (i : Nat) (l : Ln) : Prop :=
  ∃ b off : Nat, a = some ⟨b, off, none⟩ ∧ w.cell? ⟨b, off + i * 3, none⟩ = some (.int .i64 l.place) ∧ w.cell? ⟨b, off + i * 3 + 1, none⟩ = some (.string l.data) ∧ w.cell? ⟨b, off + i * 3 + 2, none⟩ = some (.string l.sent)
def Lines (w : World) (a : Option Addr) (ls : List Ln) : Prop := ∀ i (hi : i < ls.length), LnAt w a i ls[i]

theorem LnAt.below {w w' : World} {a : Option Addr} {i : Nat} {l : Ln} (h : LnAt w a i l) (hb : Below w.heap.size w w') : LnAt w' a i l := by
  obtain ⟨b, off, e, h0, h1, h2⟩ := h
  have hlt := World.block_lt_of_cell? w _ h0
  exact ⟨b, off, e, by rw [hb.cell (p := ⟨b, off + i * 3, none⟩) hlt]; exact h0, by rw [hb.cell (p := ⟨b, off + i * 3 + 1, none⟩) hlt]; exact h1, by rw [hb.cell (p := ⟨b, off + i * 3 + 2, none⟩) hlt]; exact h2⟩
theorem Lines.below {w w' : World} {a : Option Addr} {ls : List Ln} (h : Lines w a ls) (hb : Below w.heap.size w w') : Lines w' a ls := fun i hi => (h i hi).below hb

end Go.Proofs.Ytgpmpijaggnocaa.dev
