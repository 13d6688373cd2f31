/-
  A statement whose order is left open and whose callees make memory: walked once, in the order of the text, over all worlds that are later than one.
-/
import Derived.WalkKit
import Derived.WalkSpells
import Derived.Below
import Derived.BigQuiet
import Derived.Deep.QuietTactic
namespace Go.Proofs.Ythjfgibflbbgmaa.later
open Go.RowKit

/-- The worlds that are later than X: all that X had is as it was. -/
def Later (X : World) : Type := { w : World // Below X.heap.size X w }
theorem some_later (X : World) : Nonempty (Later X) := ⟨⟨X, Below.refl _ _⟩⟩
def Later.world {X : World} (n : Later X) : World := n.1
theorem Later.below {X : World} (n : Later X) : Below X.heap.size X n.world := n.2

theorem region_later {P : Program} {id : Nat} {Q : Exit → Act → World → Prop} {a : Act} {X : World} {l : List Oper} (hm : P.follows .mixedOrders = true) (hB : Region.lexB .any l.toArray = true)
    (h : wpQuiet P l.toArray (fun w' => ∃ n : Later X, w' = n.world) (fun a' => ∀ w', (∃ n : Later X, w' = n.world) → Q .normal a' w') l a) : (Code.region id l.toArray true).wp P Q a X :=
  wp_region_quiet (C := fun w' => ∃ n : Later X, w' = n.world) hm hB ⟨⟨X.drew, ⟨rfl, rfl, rfl, Nat.le_refl _, fun _ _ => rfl⟩⟩, rfl⟩ (by simpa using h)
theorem later_of {P : Program} {f : FuncId} {args : Array Value} {X : World} {n : Later X} {v : Value}
    (h : Calls P f args n.world fun e w' => e = .returned v ∧ Below n.world.heap.size n.world w') : Calls P f args n.world fun e w'' => e = .returned v ∧ ∃ m : Later X, w'' = m.world :=
  h.mono fun _ w' ⟨he, hb⟩ => ⟨he, ⟨w', n.below.trans (hb.mono n.below.size)⟩, rfl⟩
theorem later_same {P : Program} {f : FuncId} {args : Array Value} {X : World} {n : Later X} {v : Value}
    (h : Calls P f args n.world fun e w' => e = .returned v ∧ n.world = w') : Calls P f args n.world fun e w'' => e = .returned v ∧ ∃ m : Later X, w'' = m.world :=
  h.mono fun _ _ ⟨he, hb⟩ => ⟨he, n, hb.symm⟩
theorem Later.cell {X : World} {a : Addr} {v : Value} (h : X.cell? a = some v) (n : Later X) : n.world.cell? a = some v := by
  rw [n.below.cell (World.block_lt_of_cell? X a h)]; exact h
end Go.Proofs.Ythjfgibflbbgmaa.later
