/-
  What is found in a graph: the maths alone.
-/
import Derived.Test.YthjfgibflbbgmaaClMath
import Derived.Test.YthjfgibflbbgmaaGr5
import Derived.Test.YthjfgibflbbgmaaPlace
namespace Go.Proofs.Ythjfgibflbbgmaa.gs
open Go.RowKit
open kinds ints obj ref gr cl

/-- The places that these references name. -/
def pl (l : List Int) : List Int := (l.filter fun r => decide (0 < r)).map fun r => r - 1
theorem pl_snoc (l : List Int) (r : Int) : pl (l ++ [r]) = if 0 < r then pl l ++ [r - 1] else pl l := by
  unfold pl
  rw [List.filter_append]
  by_cases h : 0 < r
  · simp [h]
  · simp [h]
theorem pl_len (l : List Int) : (pl l).length ≤ l.length := by
  unfold pl
  rw [List.length_map]
  exact List.length_filter_le _ _
theorem pl_mem {l : List Int} {p : Int} (h : p ∈ pl l) : p + 1 ∈ l ∧ 0 ≤ p := by
  unfold pl at h
  obtain ⟨r, hr, rfl⟩ := List.mem_map.1 h
  rw [List.mem_filter] at hr
  have := of_decide_eq_true hr.2
  rw [show r - 1 + 1 = r by omega]
  exact ⟨hr.1, by omega⟩
/-- What a node names: its references. -/
def nmA (xs : List ByteArray) (x : Nd) : List Int := refsL (kd xs x.1) x.2 x.2.length
/-- What the node at a place names: the places. -/
def nmG (xs : List ByteArray) (ns : List Nd) (p : Int) : List Int := pl (nmA xs (ns.getD p.toNat (0, [])))
def foundG (xs : List ByteArray) (rs : List Int) (ns : List Nd) : List Int := closN (nmG xs ns) ns.length (pl rs)
def GoodG (n : Nat) (p : Int) : Prop := 0 ≤ p ∧ p < (n : Int)
theorem good_len {n : Nat} {Q : List Int} (hn : Q.Nodup) (h : ∀ p ∈ Q, GoodG n p) : Q.length ≤ n := by
  have := nodup_len (L := Q) (S := (List.range n).map fun (i : Nat) => (i : Int)) hn (fun p hp => by
    obtain ⟨h0, h1⟩ := h p hp
    exact List.mem_map.2 ⟨p.toNat, List.mem_range.2 (by omega), by omega⟩)
  simpa using this
theorem pl_good {n : Nat} {l : List Int} (h : allIn n l = true) : ∀ p ∈ pl l, GoodG n p := fun p hp => by
  obtain ⟨h1, h2⟩ := pl_mem hp
  unfold allIn at h
  have := List.all_eq_true.1 h _ h1
  simp only [Bool.and_eq_true, decide_eq_true_eq] at this
  exact ⟨h2, by omega⟩
theorem node_in {xs : List ByteArray} {n : Nat} {ns : List Nd} (h : nodesB xs n ns = true) {i : Nat} (hi : i < ns.length) : nodeB xs n ns[i] = true := by
  unfold nodesB at h
  exact List.all_eq_true.1 h _ (List.getElem_mem hi)
theorem nd_at {ns : List Nd} {i : Nat} (hi : i < ns.length) : ns.getD i (0, []) = ns[i] := by
  rw [List.getD_eq_getElem?_getD, List.getElem?_eq_getElem hi]; rfl
theorem node_refs {xs : List ByteArray} {n : Nat} {ns : List Nd} (h : nodesB xs n ns = true) {i : Nat} (hi : i < ns.length) : allIn n (nmA xs ns[i]) = true := by
  have := node_in h hi
  unfold nodeB at this
  rw [Bool.and_eq_true] at this
  exact this.2
/-- What a right node is: its type is there, it has as many values as that has kinds. -/
theorem node_fits {xs : List ByteArray} {n : Nat} {ns : List Nd} (ht : typesOk xs = true) (h : nodesB xs n ns = true) {i : Nat} (hi : i < ns.length) : ∃ p : Nat, ns[i].1 = (p : Int) ∧ ∃ hp : p < xs.length, kd xs ns[i].1 = xs[p] ∧ ns[i].2.length = xs[p].size ∧ ns[i].2.length ≤ 23 ∧ 1 ≤ ns[i].2.length ∧ isType xs[p] = true := by
  have h1 := node_in h hi
  unfold nodeB fitsB at h1
  rw [Bool.and_eq_true, Bool.and_eq_true] at h1
  obtain ⟨⟨h2, h3⟩, _⟩ := h1
  obtain ⟨p, hp, hpl⟩ := placeB_nat h2
  have hk : kd xs ns[i].1 = xs[p] := by rw [hp]; exact kd_at p hpl
  have hty : isType xs[p] = true := by
    unfold typesOk at ht
    rw [Bool.and_eq_true, List.all_eq_true] at ht
    exact ht.2 _ (List.getElem_mem hpl)
  have hl : ns[i].2.length = xs[p].size := by rw [hk] at h3; simp at h3; omega
  have := isType_size hty
  exact ⟨p, hp, hpl, hk, hl, by omega, by omega, hty⟩
theorem nmG_good {xs : List ByteArray} {ns : List Nd} (h : nodesB xs ns.length ns = true) {p : Int} (hp : GoodG ns.length p) : ∀ y ∈ nmG xs ns p, GoodG ns.length y := by
  have hi : p.toNat < ns.length := by have := hp.1; have := hp.2; omega
  unfold nmG
  rw [nd_at hi]
  exact pl_good (node_refs h hi)
/-- What the list of the work keeps: each once, all good, and what it ends with. -/
structure Wk (G : Int → Prop) (nm : Int → List Int) (m : Nat) (R : List Int) (i : Nat) (Q : List Int) : Prop where
  nd : Q.Nodup
  good : ∀ r ∈ Q, G r
  end' : workN nm (m - i) i Q = R
theorem Wk.stop {G : Int → Prop} {nm : Int → List Int} {m : Nat} {R : List Int} {i : Nat} {Q : List Int} (h : Wk G nm m R i Q) (hi : Q.length ≤ i) : Q = R := by
  rw [← h.end', workN_stop nm _ i Q hi]
theorem Wk.step {G : Int → Prop} {nm : Int → List Int} {m : Nat} {R : List Int} {i : Nat} {Q : List Int} (h : Wk G nm m R i Q) (hi : i < Q.length) (hm : Q.length ≤ m) (hg : ∀ r, G r → ∀ y ∈ nm r, G y) : Wk G nm m R (i + 1) (findN Q (nm Q[i])) := by
  refine ⟨findN_nodup h.nd, findN_sub h.good (hg _ (h.good _ (List.getElem_mem hi))), ?_⟩
  have := h.end'
  rw [show m - i = (m - (i + 1)) + 1 by omega, workN_step nm _ i Q hi] at this
  exact this
theorem Wk.start {G : Int → Prop} {nm : Int → List Int} {m : Nat} {first : List Int} (h : ∀ r ∈ first, G r) : Wk G nm m (closN nm m first) 0 (findN [] first) :=
  ⟨findN_nodup List.nodup_nil, findN_sub (fun _ h => by cases h) h, rfl⟩
theorem Wk.last {G : Int → Prop} {nm : Int → List Int} (hg : ∀ r, G r → ∀ y ∈ nm r, G y) : ∀ (f i : Nat) (Q : List Int), Q.Nodup → (∀ r ∈ Q, G r) → (workN nm f i Q).Nodup ∧ ∀ r ∈ workN nm f i Q, G r
  | 0, _, _, h1, h2 => ⟨h1, h2⟩
  | f + 1, i, Q, h1, h2 => by
    rw [workN]
    cases hx : Q[i]? with
    | none => exact ⟨h1, h2⟩
    | some x => exact Wk.last hg f (i + 1) _ (findN_nodup h1) (findN_sub h2 (hg x (h2 x (List.mem_of_getElem? hx))))
theorem foundG_good {xs : List ByteArray} {rs : List Int} {ns : List Nd} (h : allIn ns.length rs = true) (hn : nodesB xs ns.length ns = true) : (foundG xs rs ns).Nodup ∧ ∀ r ∈ foundG xs rs ns, GoodG ns.length r :=
  Wk.last (fun r hr => nmG_good hn hr) ns.length 0 _ (findN_nodup List.nodup_nil) (findN_sub (fun _ h => by cases h) (pl_good h))
theorem findN_snoc (L xs : List Int) (x : Int) : findN L (xs ++ [x]) = pushN (findN L xs) x := by
  unfold findN
  rw [List.foldl_append]; rfl
/-- As findN, a reference that is nothing passed over. -/
theorem find_pl (L l : List Int) (k : Nat) (hk : k < l.length) : findN L (pl (l.take (k + 1))) = if 0 < l[k] then pushN (findN L (pl (l.take k))) (l[k] - 1) else findN L (pl (l.take k)) := by
  rw [List.take_succ_eq_append_getElem hk, pl_snoc]
  split
  · rw [findN_snoc]
  · rfl
theorem pushN_in {L : List Int} {x : Int} (h : x ∈ L) : pushN L x = L := by unfold pushN; rw [if_pos h]
theorem pushN_out {L : List Int} {x : Int} (h : ¬ x ∈ L) : pushN L x = L ++ [x] := by unfold pushN; rw [if_neg h]
theorem seek_mem (r : Int) (l : List Int) (k : Nat) (hk : k ≤ l.length) : (0 ≤ seekI r l k) ↔ r ∈ l.take k := by
  induction k with
  | zero => simp [seekI]
  | succ k ih =>
    rw [seekI, List.take_succ_eq_append_getElem (by omega), List.mem_append, ← ih (by omega), List.mem_singleton]
    have e : l.getD k 0 = l[k] := by rw [List.getD_eq_getElem?_getD, List.getElem?_eq_getElem (by omega)]; rfl
    rw [e]
    by_cases h : 0 ≤ seekI r l k
    · simp [h]
    · rw [if_neg h]
      by_cases h2 : l[k] = r
      · rw [if_pos h2]; exact ⟨fun _ => .inr h2.symm, fun _ => by omega⟩
      · rw [if_neg h2]; exact ⟨fun q => by omega, fun q => by rcases q with q | q; exact absurd q h; exact absurd q.symm h2⟩
theorem seek_all (r : Int) (l : List Int) : (0 ≤ seekI r l l.length) ↔ r ∈ l := by
  have := seek_mem r l l.length (Nat.le_refl _)
  rwa [List.take_length] at this
theorem seek_app (r : Int) (l m : List Int) (k : Nat) (hk : k ≤ l.length) : seekI r (l ++ m) k = seekI r l k := by
  induction k with
  | zero => rfl
  | succ k ih =>
    rw [seekI, seekI, ih (by omega)]
    have e : (l ++ m).getD k 0 = l.getD k 0 := by
      rw [List.getD_eq_getElem?_getD, List.getD_eq_getElem?_getD, List.getElem?_append_left (by omega)]
    rw [e]
/-- The number of the node at a place: how many were found ahead of it, and 1; 0: it isn't found. -/
def numQ (Q : List Int) (p : Int) : Int := seekI p Q Q.length + 1
theorem numQ_zero (Q : List Int) (p : Int) : (numQ Q p == 0) = !decide (p ∈ Q) := by
  unfold numQ
  have h := seek_all p Q
  have h2 := seekI_in p Q Q.length
  by_cases q : p ∈ Q
  · have := h.2 q
    rw [decide_eq_true q]
    simp; omega
  · have h3 : ¬ 0 ≤ seekI p Q Q.length := fun z => q (h.1 z)
    rw [decide_eq_false q]
    simp; omega
theorem numQ_pos (Q : List Int) (p : Int) : (0 < numQ Q p) ↔ p ∈ Q := by
  unfold numQ
  rw [← seek_all p Q]
  omega
theorem numQ_le (Q : List Int) (p : Int) : 0 ≤ numQ Q p ∧ numQ Q p ≤ (Q.length : Int) := by
  unfold numQ
  have h2 := seekI_in p Q Q.length
  omega
theorem numQ_nil (p : Int) : numQ [] p = 0 := rfl
theorem numQ_push {Q : List Int} {x : Int} (h : ¬ x ∈ Q) (p : Int) : numQ (Q ++ [x]) p = if p = x then (Q.length : Int) + 1 else numQ Q p := by
  unfold numQ
  rw [List.length_append, List.length_singleton, seekI, seek_app p Q [x] Q.length (Nat.le_refl _)]
  have e : (Q ++ [x]).getD Q.length 0 = x := by
    rw [List.getD_eq_getElem?_getD, List.getElem?_append_right (Nat.le_refl _)]; simp
  rw [e]
  have hs := seek_all p Q
  have h2 := seekI_in p Q Q.length
  by_cases hp : p = x
  · subst hp
    rw [if_pos rfl, if_neg (fun z => h (hs.1 z)), if_pos rfl]
  · rw [if_neg hp]
    by_cases hq : 0 ≤ seekI p Q Q.length
    · rw [if_pos hq]
    · rw [if_neg hq, if_neg (fun z => hp z.symm)]
      omega
/-- What a reference is called among those that are found. -/
def newR (F : List Int) (r : Int) : Int := seekI (r - 1) F F.length + 1
theorem newR_numQ (F : List Int) (r : Int) : newR F r = numQ F (r - 1) := rfl
theorem newR_zero {n : Nat} {F : List Int} (h : ∀ p ∈ F, GoodG n p) {r : Int} (hr : ¬ 0 < r) : newR F r = 0 := by
  rw [newR_numQ]
  have h1 := numQ_le F (r - 1)
  have h2 := numQ_pos F (r - 1)
  by_cases q : 0 < numQ F (r - 1)
  · have := (h _ (h2.1 q)).1
    omega
  · omega
end Go.Proofs.Ythjfgibflbbgmaa.gs
