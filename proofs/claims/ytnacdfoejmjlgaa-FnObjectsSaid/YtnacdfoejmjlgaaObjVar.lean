/-
  Objects in variables: marked, and their marks found again; what ReadObject answers, by both.
-/
import Derived.Test.YtnacdfoejmjlgaaRoImpl
import Derived.Test.YtnacdfoejmjlgaaRoSpec
import Derived.Test.YtnacdfoejmjlgaaObjOpen
import Derived.Test.YtnacdfoejmjlgaaTxt
namespace Go.Proofs.Ytnacdfoejmjlgaa.obj
open Go.RowKit
open kinds ints txt

theorem txts_of {w : World} {g : Nat} {xs : List ByteArray} (h1 : Strs w (some ⟨g, 0, none⟩) xs) (h2 : SRow w g xs.length) : Txts w (some ⟨g, 0, none⟩) g xs := fun i hi => by
  obtain ⟨b, off, e, h⟩ := h1 i hi
  simp at e
  obtain ⟨rfl, rfl⟩ := e
  rw [Nat.zero_add] at h
  exact ⟨rfl, h, (h2 i hi).2⟩
/-- What ReadObject answers: a type, and numbers of its own. -/
def ROut (t : Int) (n : Nat) (vs : List Int) (b : Bool) (w : World) (e : Ending) (w' : World) : Prop :=
  ∃ a g cap, e = .returned (.tuple #[.agg #[.int .i64 t, .slice a n cap], .bool b]) ∧ w.heap.size ≤ g ∧ Ints w' a g vs ∧ Below w.heap.size w w'
theorem rout_of {xs : List ByteArray} {s : ByteArray} {w : World} {e : Ending} {w' : World} (h : RoAns xs s w e w') : ROut (roT xs s) (roV xs s).length (roV xs s) (roB xs s) w e w' := by
  obtain ⟨v, rfl, hown, hb⟩ := h
  obtain ⟨a, g, cap, rfl, hg, htx⟩ := ints_of_row hown
  exact ⟨a, g, cap, rfl, hg, htx, hb⟩
theorem roV_len (xs : List ByteArray) (s : ByteArray) (_h : s.size ≤ 1048576) : (roV xs s).length ≤ 1048576 := by
  unfold roV
  split
  · rename_i hb
    rw [valsR_len]
    unfold roB preB at hb
    rw [Bool.and_eq_true, Bool.and_eq_true, Bool.and_eq_true, Bool.and_eq_true] at hb
    obtain ⟨⟨ht, _, hm, _⟩, _⟩ := hb
    unfold markB at hm
    rw [Bool.and_eq_true] at hm
    have h1 := of_decide_eq_true hm.1
    have h2 := of_decide_eq_true hm.2
    obtain ⟨p, hpe⟩ : ∃ p : Nat, wAt s 0 = (p : Int) + 1 := ⟨(wAt s 0 - 1).toNat, by omega⟩
    have hpl : p < xs.length := by omega
    rw [hpe, show (p : Int) + 1 - 1 = (p : Int) by omega, kd_at p hpl]
    unfold typesOk at ht
    rw [Bool.and_eq_true, List.all_eq_true] at ht
    have := isType_size (ht.2 _ (List.getElem_mem hpl))
    omega
  · simp
/-- An object in a variable of its own. -/
structure OVar (b : Nat) (t : Int) (a : Option Addr) (g n cap : Nat) (xs : List Int) (w : World) : Prop where
  c0 : w.cell? ⟨b, 0, none⟩ = some (.int .i64 t)
  c1 : w.cell? ⟨b, 1, none⟩ = some (.slice a n cap)
  len : xs.length = n
  tx : Ints w a g xs
theorem OVar.lt {b : Nat} {t : Int} {a : Option Addr} {g n cap : Nat} {xs : List Int} {w : World} (h : OVar b t a g n cap xs w) : b < w.heap.size := World.block_lt_of_cell? w _ h.c0
theorem OVar.below {b : Nat} {t : Int} {a : Option Addr} {g n cap : Nat} {xs : List Int} {w w' : World} (h : OVar b t a g n cap xs w) (hb : Below w.heap.size w w') : OVar b t a g n cap xs w' :=
  ⟨by rw [hb.cell (p := ⟨b, 0, none⟩) h.lt]; exact h.c0, by rw [hb.cell (p := ⟨b, 1, none⟩) h.lt]; exact h.c1, h.len, h.tx.below hb⟩
theorem OVar.grown {b : Nat} {t : Int} {a : Option Addr} {g n cap r : Nat} {xs : List Int} {w w' : World} (h : OVar b t a g n cap xs w) (hg : w.grownBy w' (some r)) (hr : b ≠ r) (hne : 0 < xs.length → g ≠ r) : OVar b t a g n cap xs w' := by
  have hbk := hg.block b h.lt (fun q => hr (Option.some.inj q))
  exact ⟨by rw [World.cell?_of_block (a := ⟨b, 0, none⟩) hbk]; exact h.c0, by rw [World.cell?_of_block (a := ⟨b, 1, none⟩) hbk]; exact h.c1, h.len, h.tx.grown2 hg hne⟩
theorem OVar.start (w : World) (t : Int) (a : Option Addr) (g n cap : Nat) (xs : List Int) (T : TypeId) (hl : xs.length = n) (h : Ints w a g xs) : OVar w.heap.size t a g n cap xs (w.alloc (.cells #[.int .i64 t, .slice a n cap] T)) :=
  ⟨by rw [World.cell?_alloc_new]; rfl, by rw [World.cell?_alloc_new]; rfl, hl, h.below ((Below.refl _ _).alloc (Nat.le_refl _) _)⟩
theorem OVar.marked {b : Nat} {t : Int} {a : Option Addr} {g r n cap : Nat} {xs ys : List Int} {w w' : World} (h : OVar b t a g n cap xs w) (hg : w.grownBy w' (some r)) (hr : b ≠ r) (hl : ys.length = n) (ht : Ints w' a r ys) : OVar b t a r n cap ys w' := by
  have hbk := hg.block b h.lt (fun q => hr (Option.some.inj q))
  exact ⟨by rw [World.cell?_of_block (a := ⟨b, 0, none⟩) hbk]; exact h.c0, by rw [World.cell?_of_block (a := ⟨b, 1, none⟩) hbk]; exact h.c1, hl, ht⟩
theorem OVar.block {b : Nat} {t : Int} {a : Option Addr} {g n cap : Nat} {xs : List Int} {w : World} (h : OVar b t a g n cap xs w) (B : Nat) (hB : B ≤ g) (hw : B ≤ w.heap.size) : ∃ r, Ints w a r xs ∧ B ≤ r ∧ ∀ k, k < w.heap.size → (0 < xs.length → k ≠ g) → k ≠ r := by
  by_cases h0 : 0 < xs.length
  · exact ⟨g, h.tx, hB, fun k _ q => q h0⟩
  · exact ⟨w.heap.size, fun i hi => by omega, hw, fun k q _ => by omega⟩
theorem ovar_put {wT wR : World} {t : Int} {aR : Option Addr} {gR n kR : Nat} {vs : List Int} (hP : Pair wT wR) (hin : Ints wR aR gR vs) (hg : wT.heap.size < gR) (hl : vs.length = n) : OVar wT.heap.size t aR gR n kR vs ((wR.setCell ⟨wT.heap.size, 0, none⟩ (.int .i64 t)).setCell ⟨wT.heap.size, 1, none⟩ (.slice aR n kR)) := by
  obtain ⟨q0, q1⟩ := pair_set (hP.cell 0 _ rfl) (hP.cell 1 _ rfl) (.int .i64 t) (.slice aR n kR)
  exact ⟨q0, q1, hl, (hin.grown (grown_set _ _ _ _) (by omega)).grown (grown_set _ _ _ _) (by omega)⟩
end Go.Proofs.Ytnacdfoejmjlgaa.obj
