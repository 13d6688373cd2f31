/-
  One number appended to a row, and what stays of all else; what stays of an object's variable.
-/
import Derived.Test.YtngpmohmnpbcnaaNurOpen
import Derived.Test.YtngpmohmnpbcnaaClM2
namespace Go.Proofs.Ytngpmohmnpbcnaa.cl
open Go.RowKit
open kinds ints ref obj nu

theorem findN_snoc (L xs : List Int) (x : Int) : findN L (xs ++ [x]) = pushN (findN L xs) x := by
  unfold findN
  rw [List.foldl_append]; rfl
theorem seek_has (r : Int) (Q : List Int) : (0 ≤ seekI r Q Q.length) ↔ r ∈ Q := by
  have := seekI_mem r Q Q.length (Nat.le_refl _)
  rwa [List.take_length] at this
theorem ovar_kept {b : Nat} {t : Int} {a : Option Addr} {g n cap : Nat} {xs : List Int} {w w' : World} {row : Option Nat} (h : OVar b t a g n cap xs w) (hg : w.grownBy w' row) (hr : ∀ r, row = some r → b ≠ r ∧ (0 < xs.length → g ≠ r)) : OVar b t a g n cap xs w' := by
  cases row with
  | none => exact h.below ⟨hg.os, hg.tape, hg.output, hg.size, fun k hk => hg.block k hk (by simp)⟩
  | some r => exact h.grown hg (hr r rfl).1 (hr r rfl).2
theorem wpList_pushG {ops : Array Oper} {rest : List Oper} {o : Oper} {a : Act} {Q : Exit → Act → World → Prop} (X : World) (hgd : o.guard = none) (s x : Operand)
    (ho : o.op = .call { callee := .builtin .append, args := #[s, x], argTypes := #[23, 23] }) (base : Nat) (v : Value) (xs : List Int) (y : Int)
    (hown : X.ownsRow base 2 1 v xs.length (xs.map (Value.int .i64))) (hs : a.eval s = v) (hx : a.eval x = .slice (some ⟨X.heap.size, 0, none⟩) 1 1) (hn : xs.length ≤ 1048576) (hbase : base ≤ X.heap.size)
    (h : ∀ g cap w', w'.ownsRow base 2 1 (.slice (some ⟨g, 0, none⟩) (xs.length + 1) cap) (xs ++ [y]).length ((xs ++ [y]).map (Value.int .i64)) → X.grownBy w' v.ownBlock → Below base X w' → (v.ownBlock = some g ∨ X.heap.size ≤ g) → wpList Try.prog ops Q rest (a.put o.dst (.slice (some ⟨g, 0, none⟩) (xs.length + 1) cap)) w') :
    wpList Try.prog ops Q (o :: rest) a (X.alloc (.cells #[.int .i64 y] 2)) := by
  obtain ⟨i0, hi, hzz⟩ := Option.map_eq_some_iff.1 infoInt64
  simp only [Prod.mk.injEq] at hzz
  obtain ⟨hz0, hz1, hz2⟩ := hzz
  refine wpList_append_lies _ hgd s x 23 ho base 2 i0 (.int .i64 0) 1 8 Try.underlying23 hi hz0 hz1 hz2 rfl (by decide) v xs.length _ hs (hown.alloc _) ⟨X.heap.size, 0, none⟩ 1 1 [.int .i64 y] hx rfl ?_ ?_ (by decide) ?_ ?_ ?_ _ rfl ?_
  · intro j u hj
    match j, hj with
    | 0, hj => simp at hj; subst hj; rw [show (⟨X.heap.size, 0, none⟩ : Addr).add 0 = ⟨X.heap.size, 0, none⟩ from rfl, World.cell?_alloc_new]; rfl
  · intro u hu; simp at hu; subst hu; rfl
  · unfold maxLen; omega
  · omega
  · simp; omega
  · intro g cap w' hown' hgrow hat hlt
    have hb : Below base X w' := own_step (hown.alloc _) ((Below.refl _ _).alloc hbase _) (by simp; omega) hgrow
    refine h g cap w' (by simpa using hown') (grown_trans (grown_below _ ((Below.refl _ _).alloc (Nat.le_refl _) _)) hgrow) hb ?_
    rcases hat with q | q
    · exact .inl q
    · right; rw [q]; simp
end Go.Proofs.Ytngpmohmnpbcnaa.cl
