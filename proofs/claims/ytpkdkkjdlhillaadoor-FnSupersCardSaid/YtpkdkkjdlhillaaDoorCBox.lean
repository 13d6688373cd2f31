/-
  A config that is being put together in one block: three numbers, and texts that the call owns.
-/
import Derived.Test.YtpkdkkjdlhillaaDoorRsMath
import Derived.Test.YtpkdkkjdlhillaaDoorShorts
import Derived.Deep.RegionLaw
namespace Go.Proofs.YtpkdkkjdlhillaaDoor.crc
open Go.RowKit
open kinds txt

theorem step_pushT {ops : Array Oper} {o : Oper} {a : Act} {K : Act → World → Prop} {Q : Exit → Act → World → Prop} {E : Prop} (X : World) (hgd : o.guard = none) (s x : Operand)
    (ho : o.op = .call { callee := .builtin .append, args := #[s, x], argTypes := #[24, 24] }) (base : Nat) (v : Value) (xs : List ByteArray) (y : ByteArray)
    (hown : X.ownsRow base 9 1 v xs.length (xs.map Value.string)) (hs : a.eval s = v) (hx : a.eval x = .slice (some ⟨X.heap.size, 0, none⟩) 1 1) (hn : xs.length ≤ 1048576) (hbase : base ≤ X.heap.size)
    (h : ∀ g cap w', w'.ownsRow base 9 1 (.slice (some ⟨g, 0, none⟩) (xs.length + 1) cap) (xs ++ [y]).length ((xs ++ [y]).map Value.string) → Below base X w' → base ≤ w'.heap.size → K (a.put o.dst (.slice (some ⟨g, 0, none⟩) (xs.length + 1) cap)) w') :
    if Region.wanted o (yielded ops a.tmps) = true then Oper.wp Tryd.prog o a (X.alloc (.cells #[.string y] 9)) K Q else E := by
  obtain ⟨i0, hi, hzz⟩ := Option.map_eq_some_iff.1 infoTxt
  simp only [Prod.mk.injEq] at hzz
  obtain ⟨hz0, hz1, hz2⟩ := hzz
  refine step_append_lies _ hgd s x 24 ho base 9 i0 (.string ⟨#[]⟩) 1 16 Tryd.underlying24 hi hz0 hz1 hz2 rfl (by decide) v xs.length _ hs (hown.alloc _) ⟨X.heap.size, 0, none⟩ 1 1 [.string y] hx rfl ?_ ?_ (by decide) ?_ ?_ ?_ _ rfl ?_
  · intro j u hj
    match j, hj with
    | 0, hj => simp at hj; subst hj; rw [show (⟨X.heap.size, 0, none⟩ : Addr).add 0 = ⟨X.heap.size, 0, none⟩ from rfl, World.cell?_alloc_new]; rfl
  · intro u hu; simp at hu; subst hu; rfl
  · unfold maxLen; omega
  · omega
  · simp; omega
  · intro g cap w' hown' hgrow hat hlt
    have hb : Below base X w' := own_stepT (hown.alloc _) ((Below.refl _ _).alloc hbase _) (by simp; omega) hgrow
    exact h g cap w' (by simpa using hown') hb (Nat.le_trans hbase hb.size)
structure CBox (W : World) (cb : Nat) (n1 n2 n3 : Int) (xs : List ByteArray) (v : Value) (wr : World) : Prop where
  c0 : wr.cell? ⟨cb, 0, none⟩ = some (.int .i64 n1)
  c1 : wr.cell? ⟨cb, 1, none⟩ = some (.int .i64 n2)
  c2 : wr.cell? ⟨cb, 2, none⟩ = some (.int .i64 n3)
  c3 : wr.cell? ⟨cb, 3, none⟩ = some v
  fr : ∀ k, wr.frozen? ⟨cb, k, none⟩ = false
  own : wr.ownsRow (cb + 1) 9 1 v xs.length (xs.map Value.string)
  at0 : W.heap.size ≤ cb
  lt : cb < wr.heap.size
  below : Below W.heap.size W wr
theorem CBox.f3 {W wr : World} {cb : Nat} {n1 n2 n3 : Int} {xs : List ByteArray} {v : Value} (h : CBox W cb n1 n2 n3 xs v wr) : wr.frozen? ⟨cb, 3, none⟩ = false := h.fr 3
theorem CBox.later {W wr w' : World} {cb : Nat} {n1 n2 n3 : Int} {xs : List ByteArray} {v : Value} (h : CBox W cb n1 n2 n3 xs v wr) (hb : Below wr.heap.size wr w') : CBox W cb n1 n2 n3 xs v w' where
  c0 := by rw [hb.cell (p := ⟨cb, 0, none⟩) h.lt]; exact h.c0
  c1 := by rw [hb.cell (p := ⟨cb, 1, none⟩) h.lt]; exact h.c1
  c2 := by rw [hb.cell (p := ⟨cb, 2, none⟩) h.lt]; exact h.c2
  c3 := by rw [hb.cell (p := ⟨cb, 3, none⟩) h.lt]; exact h.c3
  fr := fun k => by rw [hb.frozen (p := ⟨cb, k, none⟩) h.lt]; exact h.fr k
  own := by
    refine ⟨h.own.1, ?_⟩
    rcases h.own.2 with q | ⟨g, cap, cur, rfl, hg0, hg, hc, hcm, hcs, ht⟩
    · exact .inl q
    · have hlt : g < wr.heap.size := by
        rcases Nat.lt_or_ge g wr.heap.size with q | q
        · exact q
        · rw [Array.getElem?_eq_none q] at hg; cases hg
      exact .inr ⟨g, cap, cur, rfl, hg0, by rw [hb.block g hlt]; exact hg, hc, hcm, hcs, ht⟩
  at0 := h.at0
  lt := Nat.lt_of_lt_of_le h.lt hb.size
  below := h.below.trans (hb.mono h.below.size)
theorem CBox.step {W X w' : World} {cb : Nat} {n1 n2 n3 : Int} {xs ys : List ByteArray} {v v' : Value} (h : CBox W cb n1 n2 n3 xs v X) (hown : w'.ownsRow (cb + 1) 9 1 v' ys.length (ys.map Value.string)) (hb : Below (cb + 1) X w') : CBox W cb n1 n2 n3 ys v' (w'.setCell ⟨cb, 3, none⟩ v') := by
  have ne : ∀ i : Nat, i ≠ 3 → (⟨cb, 3, none⟩ : Addr) ≠ ⟨cb, i, none⟩ := fun i hi q => hi (by simpa using (congrArg Addr.off q).symm)
  have k3 : w'.cell? ⟨cb, 3, none⟩ = some v := by rw [hb.cell (p := ⟨cb, 3, none⟩) (Nat.lt_succ_self _)]; exact h.c3
  refine ⟨?_, ?_, ?_, ?_, ?_, ?_, h.at0, ?_, ?_⟩
  · rw [World.cell?_setCell_other _ _ _ _ (ne 0 (by omega)), hb.cell (p := ⟨cb, 0, none⟩) (Nat.lt_succ_self _)]; exact h.c0
  · rw [World.cell?_setCell_other _ _ _ _ (ne 1 (by omega)), hb.cell (p := ⟨cb, 1, none⟩) (Nat.lt_succ_self _)]; exact h.c1
  · rw [World.cell?_setCell_other _ _ _ _ (ne 2 (by omega)), hb.cell (p := ⟨cb, 2, none⟩) (Nat.lt_succ_self _)]; exact h.c2
  · exact World.cell?_setCell_same _ _ _ k3
  · exact fun k => by rw [World.frozen?_setCell, hb.frozen (p := ⟨cb, k, none⟩) (Nat.lt_succ_self _)]; exact h.fr k
  · refine ⟨hown.1, ?_⟩
    rcases hown.2 with q | ⟨g, cap, cur, rfl, hg0, hg, hc, hcm, hcs, ht⟩
    · exact .inl q
    · exact .inr ⟨g, cap, cur, rfl, hg0, by rw [Below.heap_setCell _ _ _ _ (show g ≠ cb by omega)]; exact hg, hc, hcm, hcs, ht⟩
  · simpa using Nat.lt_of_lt_of_le h.lt hb.size
  · exact (h.below.trans (hb.mono (by have := h.at0; omega))).setCell (p := ⟨cb, 3, none⟩) h.at0 _
theorem CBox.kept {W X w' : World} {cb : Nat} {n1 n2 n3 : Int} {xs : List ByteArray} {v : Value} (h : CBox W cb n1 n2 n3 xs v X) (hb : Below (cb + 1) X w') : w'.cell? ⟨cb, 3, none⟩ = some v ∧ w'.frozen? ⟨cb, 3, none⟩ = false :=
  ⟨by rw [hb.cell (p := ⟨cb, 3, none⟩) (Nat.lt_succ_self _)]; exact h.c3, by rw [hb.frozen (p := ⟨cb, 3, none⟩) (Nat.lt_succ_self _)]; exact h.fr 3⟩
theorem CBox.past {W X : World} {cb : Nat} {n1 n2 n3 : Int} {xs : List ByteArray} {v : Value} (h : CBox W cb n1 n2 n3 xs v X) (o : Go.Obj) : (X.alloc o).cell? ⟨cb, 3, none⟩ = some v := (h.later ((Below.refl _ _).alloc (Nat.le_refl _) o)).c3
theorem CBox.draws {W X : World} {cb : Nat} {n1 n2 n3 : Int} {xs : List ByteArray} {v : Value} (h : CBox W cb n1 n2 n3 xs v X) (n : Nat) : CBox W cb n1 n2 n3 xs v (X.drewN n) :=
  ⟨h.c0, h.c1, h.c2, h.c3, h.fr, h.own, h.at0, h.lt, ⟨h.below.os, h.below.tape, h.below.output, h.below.size, h.below.block⟩⟩
theorem row_aside {w : World} {B e z b i : Nat} {v x : Value} {n : Nat} {xs : List Value} (h : w.ownsRow B e z v n xs) (hB : b < B) : (w.setCell ⟨b, i, none⟩ x).ownsRow B e z v n xs := by
  refine ⟨h.1, ?_⟩
  rcases h.2 with q | ⟨g, cap, cur, e, hg0, hg, r⟩
  · exact .inl q
  · exact .inr ⟨g, cap, cur, e, hg0, by rw [Below.heap_setCell _ _ _ _ (show g ≠ b by omega)]; exact hg, r⟩
theorem CBox.set0 {W X : World} {cb : Nat} {n1 n2 n3 : Int} {xs : List ByteArray} {v : Value} (h : CBox W cb n1 n2 n3 xs v X) (m : Int) : CBox W cb m n2 n3 xs v (X.setCell ⟨cb, 0, none⟩ (.int .i64 m)) := by
  have ne : ∀ i : Nat, i ≠ 0 → (⟨cb, 0, none⟩ : Addr) ≠ ⟨cb, i, none⟩ := fun i hi q => hi (by simpa using (congrArg Addr.off q).symm)
  exact ⟨World.cell?_setCell_same _ _ _ h.c0, by rw [World.cell?_setCell_other _ _ _ _ (ne 1 (by omega))]; exact h.c1, by rw [World.cell?_setCell_other _ _ _ _ (ne 2 (by omega))]; exact h.c2, by rw [World.cell?_setCell_other _ _ _ _ (ne 3 (by omega))]; exact h.c3, fun k => by rw [World.frozen?_setCell]; exact h.fr k, row_aside h.own (Nat.lt_succ_self _), h.at0, by simpa using h.lt, h.below.setCell (p := ⟨cb, 0, none⟩) h.at0 _⟩
theorem CBox.set1 {W X : World} {cb : Nat} {n1 n2 n3 : Int} {xs : List ByteArray} {v : Value} (h : CBox W cb n1 n2 n3 xs v X) (m : Int) : CBox W cb n1 m n3 xs v (X.setCell ⟨cb, 1, none⟩ (.int .i64 m)) := by
  have ne : ∀ i : Nat, i ≠ 1 → (⟨cb, 1, none⟩ : Addr) ≠ ⟨cb, i, none⟩ := fun i hi q => hi (by simpa using (congrArg Addr.off q).symm)
  exact ⟨by rw [World.cell?_setCell_other _ _ _ _ (ne 0 (by omega))]; exact h.c0, World.cell?_setCell_same _ _ _ h.c1, by rw [World.cell?_setCell_other _ _ _ _ (ne 2 (by omega))]; exact h.c2, by rw [World.cell?_setCell_other _ _ _ _ (ne 3 (by omega))]; exact h.c3, fun k => by rw [World.frozen?_setCell]; exact h.fr k, row_aside h.own (Nat.lt_succ_self _), h.at0, by simpa using h.lt, h.below.setCell (p := ⟨cb, 1, none⟩) h.at0 _⟩
theorem CBox.set2 {W X : World} {cb : Nat} {n1 n2 n3 : Int} {xs : List ByteArray} {v : Value} (h : CBox W cb n1 n2 n3 xs v X) (m : Int) : CBox W cb n1 n2 m xs v (X.setCell ⟨cb, 2, none⟩ (.int .i64 m)) := by
  have ne : ∀ i : Nat, i ≠ 2 → (⟨cb, 2, none⟩ : Addr) ≠ ⟨cb, i, none⟩ := fun i hi q => hi (by simpa using (congrArg Addr.off q).symm)
  exact ⟨by rw [World.cell?_setCell_other _ _ _ _ (ne 0 (by omega))]; exact h.c0, by rw [World.cell?_setCell_other _ _ _ _ (ne 1 (by omega))]; exact h.c1, World.cell?_setCell_same _ _ _ h.c2, by rw [World.cell?_setCell_other _ _ _ _ (ne 3 (by omega))]; exact h.c3, fun k => by rw [World.frozen?_setCell]; exact h.fr k, row_aside h.own (Nat.lt_succ_self _), h.at0, by simpa using h.lt, h.below.setCell (p := ⟨cb, 2, none⟩) h.at0 _⟩
theorem CBox.start (W w2 : World) (n1 n2 n3 : Int) (T : TypeId) (hb : Below W.heap.size W w2) : CBox W w2.heap.size n1 n2 n3 [] (.slice none 0 0) (w2.alloc (.cells #[.int .i64 n1, .int .i64 n2, .int .i64 n3, .slice none 0 0] T)) where
  c0 := by rw [World.cell?_alloc_new]; rfl
  c1 := by rw [World.cell?_alloc_new]; rfl
  c2 := by rw [World.cell?_alloc_new]; rfl
  c3 := by rw [World.cell?_alloc_new]; rfl
  fr := fun _ => World.frozen?_alloc_new _ _ _ _
  own := ⟨rfl, .inl ⟨rfl, rfl⟩⟩
  at0 := hb.size
  lt := by simp
  below := hb.alloc hb.size _
end Go.Proofs.YtpkdkkjdlhillaaDoor.crc
