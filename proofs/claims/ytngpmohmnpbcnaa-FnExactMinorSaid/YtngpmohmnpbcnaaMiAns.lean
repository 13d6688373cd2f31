/-
  What a collection answers.
-/
import Derived.Test.YtngpmohmnpbcnaaMiPush
import Derived.Test.YtngpmohmnpbcnaaClSpec2
namespace Go.Proofs.Ytngpmohmnpbcnaa.mi
open Go.RowKit
open kinds ints ref obj nu cl

def minP (xs : List ByteArray) (z : Int) (ws roots : List Int) : List Int := clP xs ws (startsN xs z ws).length roots
def minF (xs : List ByteArray) (z : Int) (ws roots : List Int) : List Int := (minP xs z ws roots).map odd
def minT (xs : List ByteArray) (z : Int) (ws roots : List Int) : List Int := newK xs ws (minP xs z ws roots) (minP xs z ws roots).length
def minZ (xs : List ByteArray) (z : Int) (ws roots : List Int) : Int := if rootsB xs z ws roots = true then z else 0
def minW (xs : List ByteArray) (z : Int) (ws roots : List Int) : List Int := if rootsB xs z ws roots = true then minK xs ws (minP xs z ws roots) (minF xs z ws roots) (minT xs z ws roots) (minP xs z ws roots).length else []
def minM (xs : List ByteArray) (z : Int) (ws roots : List Int) : List Int := if rootsB xs z ws roots = true then roots.map (fwd (minF xs z ws roots) (minT xs z ws roots)) else []
/-- An answer with two lists of the call's own. -/
def MiOut (t : Int) (us vs : List Int) (r : Bool) (w : World) (e : Ending) (w' : World) : Prop :=
  ∃ a g c b h d, e = .returned (.tuple #[.agg #[.int .i64 t, .slice a us.length c], .slice b vs.length d, .bool r]) ∧ w.heap.size ≤ g ∧ w.heap.size ≤ h ∧ Ints w' a g us ∧ Ints w' b h vs ∧ (0 < us.length → g < h) ∧ Below w.heap.size w w'
def MinAns (xs : List ByteArray) (z : Int) (ws roots : List Int) (w : World) (e : Ending) (w' : World) : Prop :=
  MiOut (minZ xs z ws roots) (minW xs z ws roots) (minM xs z ws roots) (rootsB xs z ws roots) w e w'
theorem min_no {xs : List ByteArray} {z : Int} {ws roots : List Int} {w : World} {e : Ending} {w' : World} (h : rootsB xs z ws roots = false) (he : e = .returned (.tuple #[.agg #[.int .i64 0, .slice none 0 0], .slice none 0 0, .bool false])) (hb : Below w.heap.size w w') : MinAns xs z ws roots w e w' := by
  unfold MinAns minZ minW minM
  rw [h, if_neg (by decide), if_neg (by decide), if_neg (by decide)]
  exact ⟨none, w.heap.size, 0, none, w.heap.size, 0, he, Nat.le_refl _, Nat.le_refl _, (fun i hi => by cases hi), (fun i hi => by cases hi), (fun h => by cases h), hb⟩
theorem min_yes {xs : List ByteArray} {z : Int} {ws roots : List Int} {w : World} {e : Ending} {w' : World} (h : rootsB xs z ws roots = true)
    (he : MiOut z (minK xs ws (minP xs z ws roots) (minF xs z ws roots) (minT xs z ws roots) (minP xs z ws roots).length) (roots.map (fwd (minF xs z ws roots) (minT xs z ws roots))) true w e w') : MinAns xs z ws roots w e w' := by
  unfold MinAns minZ minW minM
  rw [h, if_pos rfl, if_pos rfl, if_pos rfl]
  exact he
theorem kept_of {xs : List ByteArray} {z : Int} {ws roots : List Int} (h : rootsB xs z ws roots = true) : Kept xs ws (startsN xs z ws) (minP xs z ws roots) := by
  obtain ⟨h1, _, h3⟩ := rootsB_in h
  obtain ⟨hp, _, hnm⟩ := nurB_found h1
  obtain ⟨q1, q2⟩ := clP_good (m := (startsN xs z ws).length) hnm h3
  have h4 := preN_facts hp
  have h5 := starts_total h1
  exact ⟨q1, q2, starts_step xs z ws, by omega⟩
theorem minM_len (xs : List ByteArray) (z : Int) (ws roots : List Int) : (minM xs z ws roots).length ≤ roots.length := by
  unfold minM
  split
  · rw [List.length_map]; exact Nat.le_refl _
  · simp
theorem minW_len (xs : List ByteArray) (z : Int) (ws roots : List Int) : (minW xs z ws roots).length ≤ 400 := by
  unfold minW
  split
  · rename_i h
    rw [(kept_of h).minK_len _ _ _ (Nat.le_refl _)]
    exact (kept_of h).tot4 _
  · simp
theorem box_two (T : TypeId) (w : World) (z : Int) (a2 : Option Addr) (n vcap : Nat) (W : World) (hW : W = (w.alloc (.cells #[.int .i64 z, .slice a2 n vcap] 31)).alloc (.cells #[.int .i64 0, .slice none 0 0] T)) :
    Below w.heap.size w W ∧ W.heap.size = w.heap.size + 2 ∧ W.cell? ⟨w.heap.size, 0, none⟩ = some (.int .i64 z) ∧ W.cell? ⟨w.heap.size, 1, none⟩ = some (.slice a2 n vcap) ∧ W.cell? ⟨w.heap.size + 1, 0, none⟩ = some (.int .i64 0) ∧ W.cell? ⟨w.heap.size + 1, 1, none⟩ = some (.slice none 0 0) ∧ ∀ k, W.frozen? ⟨w.heap.size + 1, k, none⟩ = false := by
  subst hW
  refine ⟨((Below.refl _ _).alloc (Nat.le_refl _) _).alloc (by simp) _, by simp, ?_, ?_, ?_, ?_, fun k => by rw [World.frozen?_alloc_at _ _ _ _ (by simp)]⟩
  · rw [World.cell?_alloc_past _ _ _ (by simp), World.cell?_alloc_at _ _ _ _ (by simp)]; rfl
  · rw [World.cell?_alloc_past _ _ _ (by simp), World.cell?_alloc_at _ _ _ _ (by simp)]; rfl
  · rw [World.cell?_alloc_at _ _ _ _ (by simp)]; rfl
  · rw [World.cell?_alloc_at _ _ _ _ (by simp)]; rfl
end Go.Proofs.Ytngpmohmnpbcnaa.mi
