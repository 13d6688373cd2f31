/-
  The nodes of a graph, each in a block of its own, pointing to those that it names; by the program.
-/
import Derived.Test.YthjfgibflbbgmaaGsNode

namespace Go.Proofs.Ythjfgibflbbgmaa.gs
open Go.RowKit
open kinds ints obj ref gr cl

theorem getD_mem {bs : List Nat} {j : Nat} (h : j < bs.length) : bs.getD j 0 ∈ bs := by
  rw [List.getD_eq_getElem?_getD, List.getElem?_eq_getElem h]
  exact List.getElem_mem h
theorem mem_getD {bs : List Nat} {x : Nat} (h : x ∈ bs) : ∃ j, j < bs.length ∧ bs.getD j 0 = x := by
  obtain ⟨j, hj, rfl⟩ := List.getElem_of_mem h
  exact ⟨j, hj, by rw [List.getD_eq_getElem?_getD, List.getElem?_eq_getElem hj]; rfl⟩
theorem getD_left {bs : List Nat} {nb j : Nat} (h : j < bs.length) : (bs ++ [nb]).getD j 0 = bs.getD j 0 := by
  rw [List.getD_eq_getElem?_getD, List.getD_eq_getElem?_getD, List.getElem?_append_left h]
theorem getD_last (bs : List Nat) (nb : Nat) : (bs ++ [nb]).getD bs.length 0 = nb := by
  rw [List.getD_eq_getElem?_getD, List.getElem?_append_right (Nat.le_refl _)]; simp
/-- The first nodes, as yet naming none. -/
structure Lk1 (B : Nat) (bs : List Nat) (va : Nat → Value) (ns : List Nd) (v : Value) (w wr : World) : Prop where
  len : bs.length ≤ ns.length
  inj : ∀ i j, i < bs.length → j < bs.length → bs.getD i 0 = bs.getD j 0 → i = j
  lo : ∀ x ∈ bs, B ≤ x
  row : wr.ownsRow B 63 1 v bs.length (bs.map ptr)
  vn : ∀ r, v.ownBlock = some r → r ∉ bs
  at' : ∀ j (hj : j < ns.length), j < bs.length → NodeC wr (bs.getD j 0) ns[j].1 (va j) 0 ∧ ∃ x, wr.cell? ⟨bs.getD j 0, 2, none⟩ = some x
  bel : Below B w wr
  siz : B ≤ wr.heap.size
theorem Lk1.lt {B : Nat} {bs : List Nat} {va : Nat → Value} {ns : List Nd} {v : Value} {w wr : World} (h : Lk1 B bs va ns v w wr) : ∀ x ∈ bs, x < wr.heap.size := fun x hx => by
  obtain ⟨j, hj, rfl⟩ := mem_getD hx
  exact (h.at' j (Nat.lt_of_lt_of_le hj h.len) hj).1.lt
theorem Lk1.pushed {B : Nat} {bs : List Nat} {va : Nat → Value} {ns : List Nd} {v : Value} {w wr Z w6 : World} {nb g c : Nat} (h : Lk1 B bs va ns v w wr) (hk : bs.length < ns.length) (hbZ : Below wr.heap.size wr Z) (hnb : wr.heap.size ≤ nb) (hN : NodeC Z nb ns[bs.length].1 (va bs.length) 0) (h2 : ∃ x, Z.cell? ⟨nb, 2, none⟩ = some x)
    (hrow : w6.ownsRow B 63 1 (.slice (some ⟨g, 0, none⟩) (bs.length + 1) c) (bs.length + 1) (bs.map ptr ++ [ptr nb])) (hg : Z.grownBy w6 v.ownBlock) (hat : v.ownBlock = some g ∨ Z.heap.size ≤ g) : Lk1 B (bs ++ [nb]) va ns (.slice (some ⟨g, 0, none⟩) (bs.length + 1) c) w w6 := by
  have hlt := h.lt
  have hZs := hbZ.size
  have hnZ := hN.lt
  have hsz := h.siz
  have hvb : ∀ r, v.ownBlock = some r → B ≤ r ∧ r < wr.heap.size := fun r q => h.row.lt r q
  have hk6 : ∀ k, k < Z.heap.size → v.ownBlock ≠ some k → w6.heap[k]? = Z.heap[k]? := fun k h1 h2 => hg.block k h1 (fun q => h2 q.symm)
  refine ⟨by rw [List.length_append]; simp; omega, fun i j hi hj e => ?_, fun x hx => ?_, by rw [List.length_append, List.map_append]; exact hrow, fun r q => ?_, fun j hj hjb => ?_, (h.bel.trans (hbZ.mono hsz)).trans ⟨hg.os, hg.tape, hg.output, hg.size, fun k hk => hk6 k (by omega) (fun q => by have := (hvb k q).1; omega)⟩, by have := hg.size; omega⟩
  · rw [List.length_append, List.length_singleton] at hi hj
    by_cases hi2 : i < bs.length
    · rw [getD_left hi2] at e
      have := hlt _ (getD_mem hi2)
      by_cases hj2 : j < bs.length
      · rw [getD_left hj2] at e
        exact h.inj i j hi2 hj2 e
      · obtain rfl : j = bs.length := by omega
        rw [getD_last] at e
        omega
    · obtain rfl : i = bs.length := by omega
      rw [getD_last] at e
      by_cases hj2 : j < bs.length
      · rw [getD_left hj2] at e
        have := hlt _ (getD_mem hj2)
        omega
      · omega
  · rcases List.mem_append.1 hx with q | q
    · exact h.lo x q
    · rw [List.mem_singleton.1 q]; omega
  · have q2 : g = r := Option.some.inj q
    subst q2
    intro hm
    rcases List.mem_append.1 hm with q3 | q3
    · rcases hat with q4 | q4
      · exact h.vn g q4 q3
      · have := hlt g q3
        omega
    · rw [List.mem_singleton] at q3
      rcases hat with q4 | q4
      · have := (hvb g q4).2
        omega
      · omega
  · rw [List.length_append, List.length_singleton] at hjb
    by_cases hj2 : j < bs.length
    · rw [getD_left hj2]
      obtain ⟨q1, x, q2⟩ := h.at' j hj hj2
      have hl := q1.lt
      have hk1 : w6.heap[bs.getD j 0]? = wr.heap[bs.getD j 0]? := (hk6 _ (by omega) (fun q => h.vn _ q (getD_mem hj2))).trans (hbZ.block _ hl)
      exact ⟨q1.of hk1, x, by rw [World.cell?_of_block (a := ⟨bs.getD j 0, 2, none⟩) hk1]; exact q2⟩
    · obtain rfl : j = bs.length := by omega
      rw [getD_last]
      have hk1 : w6.heap[nb]? = Z.heap[nb]? := hk6 nb hnZ (fun q => by have := (hvb nb q).2; omega)
      obtain ⟨x, q2⟩ := h2
      exact ⟨hN.of hk1, x, by rw [World.cell?_of_block (a := ⟨nb, 2, none⟩) hk1]; exact q2⟩
/-- What a node names, in a row of its own. -/
def NamesAt (w : World) (bs : List Nat) (B b : Nat) (L : List Int) : Prop := ∃ g c, w.cell? ⟨b, 2, none⟩ = some (.slice (some ⟨g, 0, none⟩) L.length c) ∧ B ≤ g ∧ g < w.heap.size ∧ g ∉ bs ∧ ∀ k (hk : k < L.length), w.cell? ⟨g, k, none⟩ = some (ptrOf bs L[k])
theorem NamesAt.of {w w' : World} {bs : List Nat} {B b : Nat} {L : List Int} (h : NamesAt w bs B b L) (hs : w.heap.size ≤ w'.heap.size) (h2 : w'.cell? ⟨b, 2, none⟩ = w.cell? ⟨b, 2, none⟩) (hk : ∀ k, k < w.heap.size → k ∉ bs → w'.heap[k]? = w.heap[k]?) : NamesAt w' bs B b L := by
  obtain ⟨g, c, e, h0, h1, h3, h4⟩ := h
  exact ⟨g, c, by rw [h2]; exact e, h0, Nat.lt_of_lt_of_le h1 hs, h3, fun k hkl => by rw [World.cell?_of_block (a := ⟨g, k, none⟩) (hk g h1 h3)]; exact h4 k hkl⟩
structure Lk2 (B : Nat) (bs : List Nat) (va : Nat → Value) (xs : List ByteArray) (ns : List Nd) (v : Value) (k : Nat) (w wr : World) : Prop where
  one : Lk1 B bs va ns v w wr
  len : bs.length = ns.length
  names : ∀ j (hj : j < ns.length), j < k → NamesAt wr bs B (bs.getD j 0) (nmA xs ns[j])
theorem Lk1.quiet {B : Nat} {bs : List Nat} {va : Nat → Value} {ns : List Nd} {v : Value} {w wr w' : World} (h : Lk1 B bs va ns v w wr) (hb : Below wr.heap.size wr w') : Lk1 B bs va ns v w w' :=
  ⟨h.len, h.inj, h.lo, row_kept h.row (grown_below none hb) (fun _ _ _ q => by cases q), h.vn, fun j hj hjb => by
    obtain ⟨q1, x, q2⟩ := h.at' j hj hjb
    have hk := hb.block _ q1.lt
    exact ⟨q1.of hk, x, by rw [World.cell?_of_block (a := ⟨bs.getD j 0, 2, none⟩) hk]; exact q2⟩, h.bel.trans (hb.mono h.siz), Nat.le_trans h.siz hb.size⟩
theorem Lk2.quiet {B : Nat} {bs : List Nat} {va : Nat → Value} {xs : List ByteArray} {ns : List Nd} {v : Value} {k : Nat} {w wr w' : World} (h : Lk2 B bs va xs ns v k w wr) (hb : Below wr.heap.size wr w') : Lk2 B bs va xs ns v k w w' :=
  ⟨h.one.quiet hb, h.len, fun j hj hjk => (h.names j hj hjk).of hb.size (by
    have hl := (h.one.at' j hj (by rw [h.len]; exact hj)).1.lt
    exact World.cell?_of_block (a := ⟨bs.getD j 0, 2, none⟩) (hb.block _ hl)) (fun k hk _ => hb.block k hk)⟩
theorem Lk2.name {B : Nat} {bs : List Nat} {va : Nat → Value} {xs : List ByteArray} {ns : List Nd} {v : Value} {k : Nat} {w wr : World} (h : Lk2 B bs va xs ns v k w wr) (hk : k < ns.length) {g c : Nat} (hg : B ≤ g) (hgl : g < wr.heap.size) (hgb : g ∉ bs) (hr : ∀ i (hi : i < (nmA xs ns[k]).length), wr.cell? ⟨g, i, none⟩ = some (ptrOf bs (nmA xs ns[k])[i])) : Lk2 B bs va xs ns v (k + 1) w (wr.setCell ⟨bs.getD k 0, 2, none⟩ (.slice (some ⟨g, 0, none⟩) (nmA xs ns[k]).length c)) := by
  have hkb : k < bs.length := by rw [h.len]; exact hk
  have hm := getD_mem hkb
  have hlo := h.one.lo _ hm
  have hoth : ∀ i, i ≠ bs.getD k 0 → (wr.setCell ⟨bs.getD k 0, 2, none⟩ (.slice (some ⟨g, 0, none⟩) (nmA xs ns[k]).length c)).heap[i]? = wr.heap[i]? := fun i hi => Below.heap_setCell wr ⟨bs.getD k 0, 2, none⟩ _ i (fun e => hi (by rw [e]))
  refine ⟨⟨h.one.len, h.one.inj, h.one.lo, row_kept h.one.row (grown_set _ _ _ _) (fun r q q1 q2 => by injection q2 with q2; rw [← q2]; exact fun e => h.one.vn r q1 (e ▸ hm)), h.one.vn, fun j hj hjb => ?_, h.one.bel.setCell (p := ⟨bs.getD k 0, 2, none⟩) hlo _, by simp; exact h.one.siz⟩, h.len, fun j hj hjk => ?_⟩
  · obtain ⟨q1, x, q2⟩ := h.one.at' j hj hjb
    by_cases e : j = k
    · subst e
      exact ⟨q1.set2 _, _, World.cell?_setCell_same _ _ _ q2⟩
    · have hk1 := hoth (bs.getD j 0) (fun q => e (h.one.inj j k hjb hkb q))
      exact ⟨q1.of hk1, x, by rw [World.cell?_of_block (a := ⟨bs.getD j 0, 2, none⟩) hk1]; exact q2⟩
  · by_cases e : j = k
    · subst e
      obtain ⟨_, x, q2⟩ := h.one.at' j hj hkb
      exact ⟨g, c, World.cell?_setCell_same _ _ _ q2, hg, by simpa using hgl, hgb, fun i hi => by rw [World.cell?_of_block (a := ⟨g, i, none⟩) (hoth g (fun q => hgb (q ▸ hm)))]; exact hr i hi⟩
    · have hjb : j < bs.length := by rw [h.len]; exact hj
      exact (h.names j hj (by omega)).of (by simp) (World.cell?_of_block (a := ⟨bs.getD j 0, 2, none⟩) (hoth _ (fun q => e (h.one.inj j k hjb hkb q)))) (fun i _ hi => hoth i (fun q => hi (q ▸ hm)))
end Go.Proofs.Ythjfgibflbbgmaa.gs
