/-
  A graph that is put together: a row of objects, each with values of its own.
-/
import Derived.Test.YthjfgibflbbgmaaGsLines
import Derived.Test.YthjfgibflbbgmaaGr8
import Derived.Test.YthjfgibflbbgmaaOPut
import Derived.Test.YthjfgibflbbgmaaFwd2
import Derived.Deep.RegionLaw
namespace Go.Proofs.Ythjfgibflbbgmaa.gs
open Go.RowKit
open kinds ints obj ref gr cl

/-- An object of a row: its values' block, their room, the object. -/
abbrev En := Nat × Nat × Nd
def cellsE : List En → List Value
  | [] => []
  | e :: L => .int .i64 e.2.2.1 :: .slice (some ⟨e.1, 0, none⟩) e.2.2.2.length e.2.1 :: cellsE L
theorem cellsE_len : ∀ L : List En, (cellsE L).length = L.length * 2
  | [] => rfl
  | e :: L => by rw [cellsE, List.length_cons, List.length_cons, cellsE_len L, List.length_cons]; omega
theorem cellsE_app : ∀ (L : List En) (e : En), cellsE (L ++ [e]) = cellsE L ++ [.int .i64 e.2.2.1, .slice (some ⟨e.1, 0, none⟩) e.2.2.2.length e.2.1]
  | [], e => rfl
  | x :: L, e => by rw [List.cons_append, cellsE, cellsE, cellsE_app L e]; rfl
theorem cellsE_at : ∀ (L : List En) (i : Nat) (hi : i < L.length), (cellsE L)[i * 2]? = some (.int .i64 L[i].2.2.1) ∧ (cellsE L)[i * 2 + 1]? = some (.slice (some ⟨L[i].1, 0, none⟩) L[i].2.2.2.length L[i].2.1)
  | [], i, hi => by cases hi
  | e :: L, 0, _ => ⟨rfl, rfl⟩
  | e :: L, i + 1, hi => by
    have := cellsE_at L i (by simpa using hi)
    rw [show (i + 1) * 2 = i * 2 + 2 by omega, show i * 2 + 2 + 1 = (i * 2 + 1) + 2 by omega]
    exact this
def ndsE (L : List En) : List Nd := L.map fun e => e.2.2
theorem ndsE_len (L : List En) : (ndsE L).length = L.length := by simp [ndsE]
/-- A row of objects that a call owns from B on: their values lie in blocks of their own, each newer than the one before. -/
structure RowE (w : World) (B : Nat) (v : Value) (L : List En) : Prop where
  row : w.ownsRow B 53 2 v L.length (cellsE L)
  vals : ∀ e ∈ L, Ints w (some ⟨e.1, 0, none⟩) e.1 e.2.2.2 ∧ B ≤ e.1 ∧ e.1 < w.heap.size
  ne : ∀ r, v.ownBlock = some r → ∀ e ∈ L, e.1 ≠ r
  up : L.Pairwise fun x y => x.1 < y.1
theorem RowE.nil (w : World) (B : Nat) : RowE w B (.slice none 0 0) [] := ⟨World.ownsRow_nil _ _ _ _, (fun e he => by cases he), (fun r q => by cases q), List.Pairwise.nil⟩
theorem RowE.kept {w w' : World} {B : Nat} {v : Value} {L : List En} {row : Option Nat} (h : RowE w B v L) (hg : w.grownBy w' row) (hr : ∀ r, row = some r → v.ownBlock ≠ some r ∧ ∀ e ∈ L, e.1 ≠ r) : RowE w' B v L :=
  ⟨row_kept h.row hg (fun k r q1 q2 e => (hr r q2).1 (e ▸ q1)), fun e he => by
    obtain ⟨h1, h2, h3⟩ := h.vals e he
    have hk := hg.block e.1 h3 (fun q => (hr e.1 q.symm).2 e he rfl)
    exact ⟨fun i hi => by
      obtain ⟨q0, q1, q2⟩ := h1 i hi
      exact ⟨q0, by rw [World.cell?_of_block (a := ⟨e.1, i, none⟩) hk]; exact q1, by rw [World.frozen?_of_block (a := ⟨e.1, i, none⟩) hk]; exact q2⟩, h2, Nat.lt_of_lt_of_le h3 hg.size⟩, h.ne, h.up⟩
theorem RowE.quiet {w w' : World} {B : Nat} {v : Value} {L : List En} (h : RowE w B v L) (hb : Below w.heap.size w w') : RowE w' B v L := h.kept (grown_below none hb) (fun _ q => by cases q)
theorem RowE.shape {w : World} {B : Nat} {v : Value} {L : List En} (h : RowE w B v L) : ∃ a g c, v = .slice a L.length c ∧ B ≤ g ∧ ∀ i (hi : i < L.length), a = some ⟨g, 0, none⟩ ∧ w.cell? ⟨g, i * 2, none⟩ = some (.int .i64 L[i].2.2.1) ∧ w.frozen? ⟨g, i * 2, none⟩ = false ∧ w.cell? ⟨g, i * 2 + 1, none⟩ = some (.slice (some ⟨L[i].1, 0, none⟩) L[i].2.2.2.length L[i].2.1) := by
  rcases h.row.2 with ⟨e, h0⟩ | ⟨g, cap, cur, e, hb, hg, hc, hcm, hcs, ht⟩
  · exact ⟨none, B, 0, by rw [e, h0], Nat.le_refl _, fun i hi => by omega⟩
  · refine ⟨some ⟨g, 0, none⟩, g, cap, e, hb, fun i hi => ⟨rfl, ?_, by simp [World.frozen?, hg], ?_⟩⟩
    · have hx : (cur.toList.take (L.length * 2))[i * 2]? = some (.int .i64 L[i].2.2.1) := by rw [ht]; exact (cellsE_at L i hi).1
      rw [List.getElem?_take, if_pos (by omega)] at hx
      rw [cell_of_row w g (i * 2) cur 53 (0, 0) hg]
      simpa using hx
    · have hx : (cur.toList.take (L.length * 2))[i * 2 + 1]? = some (.slice (some ⟨L[i].1, 0, none⟩) L[i].2.2.2.length L[i].2.1) := by rw [ht]; exact (cellsE_at L i hi).2
      rw [List.getElem?_take, if_pos (by omega)] at hx
      rw [cell_of_row w g (i * 2 + 1) cur 53 (0, 0) hg]
      simpa using hx
theorem RowE.pushed {w w6 : World} {B g c : Nat} {v : Value} {L : List En} {e : En} (h : RowE w B v L) (he : Ints w (some ⟨e.1, 0, none⟩) e.1 e.2.2.2) (he0 : B ≤ e.1) (he1 : e.1 < w.heap.size) (he2 : ∀ x ∈ L, x.1 < e.1) (he3 : v.ownBlock ≠ some e.1)
    (hrow : w6.ownsRow B 53 2 (.slice (some ⟨g, 0, none⟩) (L.length + 1) c) (L.length + 1) (cellsE L ++ [.int .i64 e.2.2.1, .slice (some ⟨e.1, 0, none⟩) e.2.2.2.length e.2.1])) (hg : w.grownBy w6 v.ownBlock) (hat : v.ownBlock = some g ∨ w.heap.size ≤ g) : RowE w6 B (.slice (some ⟨g, 0, none⟩) (L.length + 1) c) (L ++ [e]) := by
  have hkeep : ∀ x : En, x.1 < w.heap.size → v.ownBlock ≠ some x.1 → Ints w (some ⟨x.1, 0, none⟩) x.1 x.2.2.2 → Ints w6 (some ⟨x.1, 0, none⟩) x.1 x.2.2.2 := fun x hx hv hi i hil => by
    obtain ⟨q0, q1, q2⟩ := hi i hil
    have hk := hg.block x.1 hx (fun q => hv q.symm)
    exact ⟨q0, by rw [World.cell?_of_block (a := ⟨x.1, i, none⟩) hk]; exact q1, by rw [World.frozen?_of_block (a := ⟨x.1, i, none⟩) hk]; exact q2⟩
  refine ⟨by rw [cellsE_app, List.length_append]; exact hrow, fun x hx => ?_, fun r q x hx => ?_, ?_⟩
  · rcases List.mem_append.1 hx with q | q
    · obtain ⟨h1, h2, h3⟩ := h.vals x q
      exact ⟨hkeep x h3 (fun z => h.ne x.1 z x q rfl) h1, h2, Nat.lt_of_lt_of_le h3 hg.size⟩
    · rw [List.mem_singleton.1 q]
      exact ⟨hkeep e he1 he3 he, he0, Nat.lt_of_lt_of_le he1 hg.size⟩
  · have q2 : g = r := Option.some.inj q
    subst q2
    rcases List.mem_append.1 hx with q | q
    · rcases hat with z | z
      · exact h.ne g z x q
      · have := (h.vals x q).2.2
        omega
    · rw [List.mem_singleton.1 q]
      rcases hat with z | z
      · exact fun y => he3 (y ▸ z)
      · omega
  · rw [List.pairwise_append]
    exact ⟨h.up, List.pairwise_singleton _ _, fun x hx y hy => by rw [List.mem_singleton.1 hy]; exact he2 x hx⟩
theorem news_obj (X : World) (x0 x1 : Value) (T : TypeId) : ∀ j u, ([x0, x1] : List Value)[j]? = some u → (X.alloc (.cells #[x0, x1] T)).cell? ((⟨X.heap.size, 0, none⟩ : Addr).add j) = some u := fun j u hj =>
  World.news_of_block (cs := #[x0, x1]) (heap_alloc_new X _) j u hj
theorem wpList_pushO {ops : Array Oper} {rest : List Oper} {o : Oper} {a : Act} {Q : Exit → Act → World → Prop} (X : World) (hgd : o.guard = none) (s x : Operand)
    (ho : o.op = .call { callee := .builtin .append, args := #[s, x], argTypes := #[31, 31] }) (base : Nat) (v : Value) (n : Nat) (xs : List Value) (t : Int) (g0 m0 c0 : Nat)
    (hown : X.ownsRow base 53 2 v n xs) (hs : a.eval s = v) (hx : a.eval x = .slice (some ⟨X.heap.size, 0, none⟩) 1 1) (hn : n ≤ 1048576) (hbase : base ≤ X.heap.size)
    (h : ∀ g cap w', w'.ownsRow base 53 2 (.slice (some ⟨g, 0, none⟩) (n + 1) cap) (n + 1) (xs ++ [.int .i64 t, .slice (some ⟨g0, 0, none⟩) m0 c0]) → X.grownBy w' v.ownBlock → Below base X w' → (v.ownBlock = some g ∨ X.heap.size ≤ g) → wpList Try.prog ops Q rest (a.put o.dst (.slice (some ⟨g, 0, none⟩) (n + 1) cap)) w') :
    wpList Try.prog ops Q (o :: rest) a (X.alloc (.cells #[.int .i64 t, .slice (some ⟨g0, 0, none⟩) m0 c0] 53)) := by
  obtain ⟨i0, hi, hzz⟩ := Option.map_eq_some_iff.1 infoObj
  simp only [Prod.mk.injEq] at hzz
  obtain ⟨hz0, hz1, hz2⟩ := hzz
  refine wpList_append_lies _ hgd s x 31 ho base 53 i0 (.agg #[.int .i64 0, .slice none 0 0]) 2 32 Try.underlying31 hi hz0 hz1 hz2 rfl (by decide) v n _ hs (hown.alloc _) ⟨X.heap.size, 0, none⟩ 1 1 [.int .i64 t, .slice (some ⟨g0, 0, none⟩) m0 c0] hx rfl (news_obj X _ _ _) ?_ (by decide) ?_ ?_ ?_ _ rfl ?_
  · intro u hu; simp at hu; rcases hu with rfl | rfl <;> rfl
  · unfold maxLen; omega
  · omega
  · simp; omega
  · intro g cap w' hown' hgrow hat hlt
    have h1 : X.grownBy w' v.ownBlock := grown_trans (grown_below _ ((Below.refl _ _).alloc (Nat.le_refl _) _)) hgrow
    refine h g cap w' hown' h1 (grown_own h1 (fun k hk => (hown.lt k hk).1) hbase) ?_
    rcases hat with q | q
    · exact .inl q
    · right; rw [q]; simp
theorem step_pushO {ops : Array Oper} {o : Oper} {a : Act} {K : Act → World → Prop} {Q : Exit → Act → World → Prop} {E : Prop} (X : World) (hgd : o.guard = none) (s x : Operand)
    (ho : o.op = .call { callee := .builtin .append, args := #[s, x], argTypes := #[31, 31] }) (base : Nat) (v : Value) (n : Nat) (xs : List Value) (t : Int) (g0 m0 c0 : Nat)
    (hown : X.ownsRow base 53 2 v n xs) (hs : a.eval s = v) (hx : a.eval x = .slice (some ⟨X.heap.size, 0, none⟩) 1 1) (hn : n ≤ 1048576) (hbase : base ≤ X.heap.size)
    (h : ∀ g cap w', w'.ownsRow base 53 2 (.slice (some ⟨g, 0, none⟩) (n + 1) cap) (n + 1) (xs ++ [.int .i64 t, .slice (some ⟨g0, 0, none⟩) m0 c0]) → X.grownBy w' v.ownBlock → Below base X w' → (v.ownBlock = some g ∨ X.heap.size ≤ g) → K (a.put o.dst (.slice (some ⟨g, 0, none⟩) (n + 1) cap)) w') :
    if Region.wanted o (yielded ops a.tmps) = true then Oper.wp Try.prog o a (X.alloc (.cells #[.int .i64 t, .slice (some ⟨g0, 0, none⟩) m0 c0] 53)) K Q else E := by
  obtain ⟨i0, hi, hzz⟩ := Option.map_eq_some_iff.1 infoObj
  simp only [Prod.mk.injEq] at hzz
  obtain ⟨hz0, hz1, hz2⟩ := hzz
  refine step_append_lies _ hgd s x 31 ho base 53 i0 (.agg #[.int .i64 0, .slice none 0 0]) 2 32 Try.underlying31 hi hz0 hz1 hz2 rfl (by decide) v n _ hs (hown.alloc _) ⟨X.heap.size, 0, none⟩ 1 1 [.int .i64 t, .slice (some ⟨g0, 0, none⟩) m0 c0] hx rfl (news_obj X _ _ _) ?_ (by decide) ?_ ?_ ?_ _ rfl ?_
  · intro u hu; simp at hu; rcases hu with rfl | rfl <;> rfl
  · unfold maxLen; omega
  · omega
  · simp; omega
  · intro g cap w' hown' hgrow hat hlt
    have h1 : X.grownBy w' v.ownBlock := grown_trans (grown_below _ ((Below.refl _ _).alloc (Nat.le_refl _) _)) hgrow
    refine h g cap w' hown' h1 (grown_own h1 (fun k hk => (hown.lt k hk).1) hbase) ?_
    rcases hat with q | q
    · exact .inl q
    · right; rw [q]; simp
/-- A node with its references called anew. -/
def newN (xs : List ByteArray) (F : List Int) (x : Nd) : Nd := (x.1, fwdL (newR F) (kd xs x.1) x.2 x.2.length)
theorem newN_len (xs : List ByteArray) (F : List Int) (x : Nd) : (newN xs F x).2.length = x.2.length := by unfold newN; rw [fwdL_len]
/-- The first nodes of a plain graph. -/
def plainK (xs : List ByteArray) (ns : List Nd) (F : List Int) : Nat → List Nd
  | 0 => []
  | k + 1 => plainK xs ns F k ++ [newN xs F (ns.getD (F.getD k 0).toNat (0, []))]
theorem plainK_len (xs : List ByteArray) (ns : List Nd) (F : List Int) (k : Nat) : (plainK xs ns F k).length = k := by
  induction k with
  | zero => rfl
  | succ k ih => rw [plainK, List.length_append, ih]; rfl
def plainR (xs : List ByteArray) (rs : List Int) (ns : List Nd) : List Int := if graphB xs rs ns = true then rs.map (newR (foundG xs rs ns)) else []
def plainN (xs : List ByteArray) (rs : List Int) (ns : List Nd) : List Nd := if graphB xs rs ns = true then plainK xs ns (foundG xs rs ns) (foundG xs rs ns).length else []
/-- What a call answers that puts a graph together. -/
def PAns (rs : List Int) (ns : List Nd) (w : World) (e : Ending) (w' : World) : Prop :=
  ∃ a gr c v L, e = .returned (.agg #[.slice a rs.length c, v]) ∧ ns = ndsE L ∧ Ints w' a gr rs ∧ w.heap.size ≤ gr ∧ RowE w' w.heap.size v L ∧ v.ownBlock ≠ some gr ∧ (∀ x ∈ L, x.1 ≠ gr) ∧ Below w.heap.size w w'
end Go.Proofs.Ythjfgibflbbgmaa.gs
