/-
  An object that is being put together in one block, in a seat that reads no bytes: its type, and numbers that the call owns.
-/
import Derived.Test.YthjfgibflbbgmaaObj1
import Derived.Deep.AppendLies
import Derived.Deep.RegionLaw
namespace Go.Proofs.Ythjfgibflbbgmaa.obj
open Go.RowKit
open kinds ints ref

theorem step_pushI {ops : Array Oper} {o : Oper} {a : Act} {K : Act → World → Prop} {Q : Exit → Act → World → Prop} {E : Prop} (X : World) (hgd : o.guard = none) (s x : Operand)
    (ho : o.op = .call { callee := .builtin .append, args := #[s, x], argTypes := #[23, 23] }) (base : Nat) (v : Value) (xs : List Int) (y : Int)
    (hown : X.ownsRow base 2 1 v xs.length (xs.map (Value.int .i64))) (hs : a.eval s = v) (hx : a.eval x = .slice (some ⟨X.heap.size, 0, none⟩) 1 1) (hn : xs.length ≤ 1048576) (hbase : base ≤ X.heap.size)
    (h : ∀ g cap w', w'.ownsRow base 2 1 (.slice (some ⟨g, 0, none⟩) (xs.length + 1) cap) (xs ++ [y]).length ((xs ++ [y]).map (Value.int .i64)) → Below base X w' → base ≤ w'.heap.size → K (a.put o.dst (.slice (some ⟨g, 0, none⟩) (xs.length + 1) cap)) w') :
    if Region.wanted o (yielded ops a.tmps) = true then Oper.wp Try.prog o a (X.alloc (.cells #[.int .i64 y] 2)) K Q else E := by
  obtain ⟨i0, hi, hzz⟩ := Option.map_eq_some_iff.1 infoInt64
  simp only [Prod.mk.injEq] at hzz
  obtain ⟨hz0, hz1, hz2⟩ := hzz
  refine step_append_lies _ hgd s x 23 ho base 2 i0 (.int .i64 0) 1 8 Try.underlying23 hi hz0 hz1 hz2 rfl (by decide) v xs.length _ hs (hown.alloc _) ⟨X.heap.size, 0, none⟩ 1 1 [.int .i64 y] hx rfl ?_ ?_ (by decide) ?_ ?_ ?_ _ rfl ?_
  · intro j u hj
    match j, hj with
    | 0, hj => simp at hj; subst hj; rw [show (⟨X.heap.size, 0, none⟩ : Addr).add 0 = ⟨X.heap.size, 0, none⟩ from rfl, World.cell?_alloc_new]; rfl
  · intro u hu; simp at hu; subst hu; rfl
  · unfold maxLen; omega
  · omega
  · simp; omega
  · intro g cap w' hown' hgrow hat hlt
    have hb : Below base X w' := own_step (hown.alloc _) ((Below.refl _ _).alloc hbase _) (by simp; omega) hgrow
    exact h g cap w' (by simpa using hown') hb (Nat.le_trans hbase hb.size)
theorem row_below {wr w' : World} {B e z : Nat} {v : Value} {n : Nat} {xs : List Value} (h : wr.ownsRow B e z v n xs) (hb : Below wr.heap.size wr w') : w'.ownsRow B e z v n xs := by
  refine ⟨h.1, ?_⟩
  rcases h.2 with q | ⟨g, cap, cur, rfl, hg0, hg, r⟩
  · exact .inl q
  · have hlt : g < wr.heap.size := by
      rcases Nat.lt_or_ge g wr.heap.size with q | q
      · exact q
      · rw [Array.getElem?_eq_none q] at hg; cases hg
    exact .inr ⟨g, cap, cur, rfl, hg0, by rw [hb.block g hlt]; exact hg, r⟩
theorem row_aside {w : World} {B e z b i : Nat} {v x : Value} {n : Nat} {xs : List Value} (h : w.ownsRow B e z v n xs) (hB : b < B) : (w.setCell ⟨b, i, none⟩ x).ownsRow B e z v n xs := by
  refine ⟨h.1, ?_⟩
  rcases h.2 with q | ⟨g, cap, cur, e, hg0, hg, r⟩
  · exact .inl q
  · exact .inr ⟨g, cap, cur, e, hg0, by rw [Below.heap_setCell _ _ _ _ (show g ≠ b by omega)]; exact hg, r⟩
theorem row_mono {w : World} {B B' e z : Nat} {v : Value} {n : Nat} {xs : List Value} (h : w.ownsRow B e z v n xs) (hB : B' ≤ B) : w.ownsRow B' e z v n xs := by
  refine ⟨h.1, ?_⟩
  rcases h.2 with q | ⟨g, cap, cur, e, hg0, r⟩
  · exact .inl q
  · exact .inr ⟨g, cap, cur, e, by omega, r⟩
structure OBox (W : World) (cb : Nat) (t : Int) (xs : List Int) (v : Value) (wr : World) : Prop where
  c0 : wr.cell? ⟨cb, 0, none⟩ = some (.int .i64 t)
  c1 : wr.cell? ⟨cb, 1, none⟩ = some v
  fr : ∀ k, wr.frozen? ⟨cb, k, none⟩ = false
  own : wr.ownsRow (cb + 1) 2 1 v xs.length (xs.map (Value.int .i64))
  at0 : W.heap.size ≤ cb
  lt : cb < wr.heap.size
  below : Below W.heap.size W wr
theorem OBox.later {W wr w' : World} {cb : Nat} {t : Int} {xs : List Int} {v : Value} (h : OBox W cb t xs v wr) (hb : Below wr.heap.size wr w') : OBox W cb t xs v w' where
  c0 := by rw [hb.cell (p := ⟨cb, 0, none⟩) h.lt]; exact h.c0
  c1 := by rw [hb.cell (p := ⟨cb, 1, none⟩) h.lt]; exact h.c1
  fr := fun k => by rw [hb.frozen (p := ⟨cb, k, none⟩) h.lt]; exact h.fr k
  own := row_below h.own hb
  at0 := h.at0
  lt := Nat.lt_of_lt_of_le h.lt hb.size
  below := h.below.trans (hb.mono h.below.size)
theorem OBox.step {W X w' : World} {cb : Nat} {t : Int} {xs ys : List Int} {v v' : Value} (h : OBox W cb t xs v X) (hown : w'.ownsRow (cb + 1) 2 1 v' ys.length (ys.map (Value.int .i64))) (hb : Below (cb + 1) X w') : OBox W cb t ys v' (w'.setCell ⟨cb, 1, none⟩ v') := by
  have ne : (⟨cb, 1, none⟩ : Addr) ≠ ⟨cb, 0, none⟩ := fun q => by have := congrArg Addr.off q; simp at this
  have k1 : w'.cell? ⟨cb, 1, none⟩ = some v := by rw [hb.cell (p := ⟨cb, 1, none⟩) (Nat.lt_succ_self _)]; exact h.c1
  refine ⟨?_, World.cell?_setCell_same _ _ _ k1, fun k => ?_, row_aside hown (Nat.lt_succ_self _), h.at0, by simpa using Nat.lt_of_lt_of_le h.lt hb.size, (h.below.trans (hb.mono (by have := h.at0; omega))).setCell (p := ⟨cb, 1, none⟩) h.at0 _⟩
  · rw [World.cell?_setCell_other _ _ _ _ ne, hb.cell (p := ⟨cb, 0, none⟩) (Nat.lt_succ_self _)]; exact h.c0
  · rw [World.frozen?_setCell, hb.frozen (p := ⟨cb, k, none⟩) (Nat.lt_succ_self _)]; exact h.fr k
theorem OBox.kept {W X w' : World} {cb : Nat} {t : Int} {xs : List Int} {v : Value} (h : OBox W cb t xs v X) (hb : Below (cb + 1) X w') : w'.cell? ⟨cb, 1, none⟩ = some v ∧ w'.frozen? ⟨cb, 1, none⟩ = false :=
  ⟨by rw [hb.cell (p := ⟨cb, 1, none⟩) (Nat.lt_succ_self _)]; exact h.c1, by rw [hb.frozen (p := ⟨cb, 1, none⟩) (Nat.lt_succ_self _)]; exact h.fr 1⟩
theorem OBox.past {W X : World} {cb : Nat} {t : Int} {xs : List Int} {v : Value} (h : OBox W cb t xs v X) (o : Go.Obj) : (X.alloc o).cell? ⟨cb, 1, none⟩ = some v := (h.later ((Below.refl _ _).alloc (Nat.le_refl _) o)).c1
theorem OBox.drawn {W X : World} {cb : Nat} {t : Int} {xs : List Int} {v : Value} (h : OBox W cb t xs v X) : OBox W cb t xs v X.drew :=
  ⟨h.c0, h.c1, h.fr, h.own, h.at0, h.lt, ⟨h.below.os, h.below.tape, h.below.output, h.below.size, h.below.block⟩⟩
theorem OBox.start (W w2 : World) (t : Int) (T : TypeId) (hb : Below W.heap.size W w2) : OBox W w2.heap.size t [] (.slice none 0 0) (w2.alloc (.cells #[.int .i64 t, .slice none 0 0] T)) where
  c0 := by rw [World.cell?_alloc_new]; rfl
  c1 := by rw [World.cell?_alloc_new]; rfl
  fr := fun _ => World.frozen?_alloc_new _ _ _ _
  own := ⟨rfl, .inl ⟨rfl, rfl⟩⟩
  at0 := hb.size
  lt := by simp
  below := hb.alloc hb.size _
/-- The two cells of an answer's block. -/
structure Pair (w : World) (W : World) : Prop where
  below : Below w.heap.size w W
  lt : w.heap.size < W.heap.size
  cell : ∀ k v, #[Value.int .i64 0, .slice none 0 0][k]? = some v → W.cell? ⟨w.heap.size, k, none⟩ = some v
  free : ∀ k, W.frozen? ⟨w.heap.size, k, none⟩ = false
theorem Pair.later {w W w' : World} (h : Pair w W) (hb : Below W.heap.size W w') : Pair w w' where
  below := h.below.trans (hb.mono h.below.size)
  lt := Nat.lt_of_lt_of_le h.lt hb.size
  cell := fun k v q => by rw [hb.cell (p := ⟨w.heap.size, k, none⟩) h.lt]; exact h.cell k v q
  free := fun k => by rw [hb.frozen (p := ⟨w.heap.size, k, none⟩) h.lt]; exact h.free k
theorem Pair.start (w : World) (T : TypeId) : Pair w (w.alloc (.cells #[.int .i64 0, .slice none 0 0] T)) where
  below := (Below.refl _ _).alloc (Nat.le_refl _) _
  lt := by simp
  cell := fun k v h => by rw [World.cell?_alloc_new]; exact h
  free := fun k => World.frozen?_alloc_new _ _ _ _
theorem Pair.put {w W : World} (h : Pair w W) (x0 x1 : Value) : Below w.heap.size w ((W.setCell ⟨w.heap.size, 0, none⟩ x0).setCell ⟨w.heap.size, 1, none⟩ x1) :=
  (h.below.setCell (p := ⟨w.heap.size, 0, none⟩) (Nat.le_refl _) x0).setCell (p := ⟨w.heap.size, 1, none⟩) (Nat.le_refl _) x1
theorem pair_set {w : World} {b : Nat} {v0 v1 : Value} (h0 : w.cell? ⟨b, 0, none⟩ = some v0) (h1 : w.cell? ⟨b, 1, none⟩ = some v1) (x0 x1 : Value) :
    ((w.setCell ⟨b, 0, none⟩ x0).setCell ⟨b, 1, none⟩ x1).cell? ⟨b, 0, none⟩ = some x0 ∧ ((w.setCell ⟨b, 0, none⟩ x0).setCell ⟨b, 1, none⟩ x1).cell? ⟨b, 1, none⟩ = some x1 := by
  have ne : ∀ i j : Nat, i ≠ j → (⟨b, i, none⟩ : Addr) ≠ ⟨b, j, none⟩ := fun i j h q => h (by simpa using congrArg Addr.off q)
  refine ⟨?_, ?_⟩
  · rw [World.cell?_setCell_other _ _ _ _ (ne 1 0 (by omega))]
    exact World.cell?_setCell_same _ _ _ h0
  · exact World.cell?_setCell_same _ _ _ (by rw [World.cell?_setCell_other _ _ _ _ (ne 0 1 (by omega))]; exact h1)
/-- What is known of an object that is right. -/
theorem objOk_in {xs : List ByteArray} {t : Int} {vs : List Int} (h : objOkB xs t vs = true) : ∃ p : Nat, t = (p : Int) ∧ ∃ hp : p < xs.length, p < 12 ∧ kd xs t = xs[p] ∧ isType xs[p] = true ∧ vs.length = xs[p].size ∧ vs.length ≤ 23 ∧ 1 ≤ vs.length := by
  unfold objOkB at h
  rw [Bool.and_eq_true, Bool.and_eq_true] at h
  obtain ⟨⟨h1, h2⟩, _⟩ := h
  unfold fitsB at h2
  rw [Bool.and_eq_true] at h2
  obtain ⟨p, rfl, hpl⟩ := placeB_nat h2.1
  have hk := kd_at p hpl
  have hty : isType xs[p] = true := by
    unfold typesOk at h1
    rw [Bool.and_eq_true, List.all_eq_true] at h1
    exact h1.2 _ (List.getElem_mem hpl)
  have h12 : xs.length ≤ 12 := by
    unfold typesOk at h1
    rw [Bool.and_eq_true, Bool.and_eq_true] at h1
    exact of_decide_eq_true h1.1.2
  have hl : vs.length = xs[p].size := by
    have := h2.2
    rw [hk] at this
    simp at this
    omega
  have := isType_size hty
  exact ⟨p, rfl, hpl, by omega, hk, hty, hl, by omega, by omega⟩
end Go.Proofs.Ythjfgibflbbgmaa.obj
