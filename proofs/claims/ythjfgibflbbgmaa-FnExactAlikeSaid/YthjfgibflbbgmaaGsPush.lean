/-
  One number appended to a row, and what stays of all else; places found, and marks of them.
-/
import Derived.Test.YthjfgibflbbgmaaGsMath
import Derived.Deep.AppendLies
namespace Go.Proofs.Ythjfgibflbbgmaa.gs
open Go.RowKit
open kinds ints obj ref gr cl

theorem row_kept {w w' : World} {B e z : Nat} {v : Value} {n : Nat} {xs : List Value} {row : Option Nat} (h : w.ownsRow B e z v n xs) (hg : w.grownBy w' row) (hr : ∀ k r, v.ownBlock = some k → row = some r → k ≠ r) : w'.ownsRow B e z v n xs :=
  h.kept hg (by
    cases ho : v.ownBlock with
    | none => exact .inl rfl
    | some b =>
      right
      intro q
      exact hr b b ho q.symm rfl)
theorem wpList_pushG {ops : Array Oper} {rest : List Oper} {o : Oper} {a : Act} {Q : Exit → Act → World → Prop} (X : World) (hgd : o.guard = none) (s x : Operand)
    (ho : o.op = .call { callee := .builtin .append, args := #[s, x], argTypes := #[23, 23] }) (base : Nat) (v : Value) (xs : List Int) (y : Int)
    (hown : X.ownsRow base 2 1 v xs.length (xs.map (Value.int .i64))) (hs : a.eval s = v) (hx : a.eval x = .slice (some ⟨X.heap.size, 0, none⟩) 1 1) (hn : xs.length ≤ 1048576) (hbase : base ≤ X.heap.size)
    (h : ∀ g cap w', w'.ownsRow base 2 1 (.slice (some ⟨g, 0, none⟩) (xs.length + 1) cap) (xs ++ [y]).length ((xs ++ [y]).map (Value.int .i64)) → X.grownBy w' v.ownBlock → Below base X w' → (v.ownBlock = some g ∨ X.heap.size ≤ g) → wpList Try.prog ops Q rest (a.put o.dst (.slice (some ⟨g, 0, none⟩) (xs.length + 1) cap)) w') :
    wpList Try.prog ops Q (o :: rest) a (X.alloc (.cells #[.int .i64 y] 2)) := by
  obtain ⟨i0, hi, hzz⟩ := Option.map_eq_some_iff.1 infoInt64
  simp only [Prod.mk.injEq] at hzz
  obtain ⟨hz0, hz1, hz2⟩ := hzz
  refine wpList_append_lies _ hgd s x 23 ho base 2 i0 (.int .i64 0) 1 8 Try.underlying23 hi hz0 hz1 hz2 rfl (by decide) v xs.length _ hs (hown.alloc _) ⟨X.heap.size, 0, none⟩ 1 1 [.int .i64 y] hx rfl ?_ ?_ (by decide) ?_ ?_ ?_ _ rfl ?_
  · intro j u hj
    match j, hj with
    | 0, hj => simp at hj; subst hj; rw [show (⟨X.heap.size, 0, none⟩ : Addr).add 0 = ⟨X.heap.size, 0, none⟩ from rfl, World.cell?_alloc_new]; rfl
  · intro u hu; simp at hu; subst hu; rfl
  · unfold maxLen; omega
  · omega
  · simp; omega
  · intro g cap w' hown' hgrow hat hlt
    have hb : Below base X w' := own_step (hown.alloc _) ((Below.refl _ _).alloc hbase _) (by simp; omega) hgrow
    refine h g cap w' (by simpa using hown') (grown_trans (grown_below _ ((Below.refl _ _).alloc (Nat.le_refl _) _)) hgrow) hb ?_
    rcases hat with q | q
    · exact .inl q
    · right; rw [q]; simp
theorem own_lt {w : World} {B e z : Nat} {v : Value} {n : Nat} {xs : List Value} (h : w.ownsRow B e z v n xs) : ∀ g, v.ownBlock = some g → B ≤ g ∧ g < w.heap.size := fun g q => h.lt g q
/-- The places found, in a row, and a mark for each of them. -/
structure Sn (W : World) (S n : Nat) (v : Value) (Q : List Int) (w : World) : Prop where
  row : w.ownsRow W.heap.size 2 1 v Q.length (Q.map (Value.int .i64))
  bits : ∀ i, i < n → w.cell? ⟨S, i, none⟩ = some (.bool (decide ((i : Int) ∈ Q))) ∧ w.frozen? ⟨S, i, none⟩ = false
  ne : ∀ r, v.ownBlock = some r → r ≠ S
  hS : W.heap.size ≤ S
  bel : Below W.heap.size W w
theorem Sn.quiet {W : World} {S n : Nat} {v : Value} {Q : List Int} {w w' : World} (h : Sn W S n v Q w) (hb : Below w.heap.size w w') : Sn W S n v Q w' :=
  ⟨row_kept h.row (grown_below none hb) (fun _ _ _ q => by cases q), fun i hi => by
    obtain ⟨h0, h1⟩ := h.bits i hi
    have hl := World.block_lt_of_cell? w _ h0
    exact ⟨by rw [hb.cell (p := ⟨S, i, none⟩) hl]; exact h0, by rw [hb.frozen (p := ⟨S, i, none⟩) hl]; exact h1⟩, h.ne, h.hS, h.bel.trans (hb.mono h.bel.size)⟩
theorem Sn.mark {W : World} {S n : Nat} {v : Value} {Q : List Int} {w : World} (h : Sn W S n v Q w) (m : Nat) (x : Value) : (w.setCell ⟨S, m, none⟩ x).ownsRow W.heap.size 2 1 v Q.length (Q.map (Value.int .i64)) ∧ W.heap.size ≤ (w.setCell ⟨S, m, none⟩ x).heap.size :=
  ⟨row_kept h.row (grown_set _ _ _ _) (fun k r q1 q2 => by injection q2 with q2; rw [← q2]; exact h.ne k q1), by simp; exact h.bel.size⟩
theorem Sn.pushed {W : World} {S n : Nat} {v v' : Value} {Q : List Int} {w w6 : World} (h : Sn W S n v Q w) (m : Nat) (hmn : m < n)
    (hown : w6.ownsRow W.heap.size 2 1 v' (Q ++ [(m : Int)]).length ((Q ++ [(m : Int)]).map (Value.int .i64))) (hg : (w.setCell ⟨S, m, none⟩ (.bool true)).grownBy w6 v.ownBlock) (hat : ∀ g, v'.ownBlock = some g → v.ownBlock = some g ∨ w.heap.size ≤ g) : Sn W S n v' (Q ++ [(m : Int)]) w6 := by
  have hS := h.hS
  have hl := World.block_lt_of_cell? w _ (h.bits m hmn).1
  have hbk : w6.heap[S]? = (w.setCell ⟨S, m, none⟩ (.bool true)).heap[S]? := hg.block S (by simpa using hl) (fun q => h.ne S q.symm rfl)
  refine ⟨hown, fun i hi => ?_, fun r q => ?_, hS, (h.bel.setCell (p := ⟨S, m, none⟩) hS _).trans ⟨hg.os, hg.tape, hg.output, hg.size, fun k hk => hg.block k (by have := h.bel.size; simp; omega) (fun q => by have := (own_lt h.row k q.symm).1; omega)⟩⟩
  · obtain ⟨h0, h1⟩ := h.bits i hi
    rw [World.cell?_of_block (a := ⟨S, i, none⟩) hbk, World.frozen?_of_block (a := ⟨S, i, none⟩) hbk, World.frozen?_setCell]
    refine ⟨?_, h1⟩
    by_cases e : i = m
    · subst e
      rw [World.cell?_setCell_same _ _ _ h0]
      simp
    · rw [World.cell?_setCell_other _ _ _ _ (fun q => e (by simpa using (congrArg Addr.off q).symm)), h0]
      have : ((i : Int) ∈ Q ++ [(m : Int)]) ↔ ((i : Int) ∈ Q) := by
        rw [List.mem_append, List.mem_singleton]
        exact ⟨fun q => q.elim id (fun q => by omega), .inl⟩
      rw [decide_eq_decide.2 this]
  · rcases hat r q with q | q
    · exact h.ne r q
    · have hl2 : S < w.heap.size := hl
      omega
end Go.Proofs.Ythjfgibflbbgmaa.gs
