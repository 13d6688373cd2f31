/-
  A collection of a nursery as numbers: where each object that is kept comes to lie, and the words that come out; the maths alone.
-/
import Derived.Test.YtngpmohmnpbcnaaClM2
import Derived.Test.YtngpmohmnpbcnaaFwd4
import Derived.Test.YtngpmohmnpbcnaaYFirst
namespace Go.Proofs.Ytngpmohmnpbcnaa.mi
open Go.RowKit
open kinds ints ref obj nu cl

/-- How many words these objects have. -/
def total (xs : List ByteArray) (ws : List Int) : List Int → Nat
  | [] => 0
  | p :: P => stepN xs ws p.toNat + total xs ws P
theorem total_app (xs : List ByteArray) (ws : List Int) (P Q : List Int) : total xs ws (P ++ Q) = total xs ws P + total xs ws Q := by
  induction P with
  | nil => simp [total]
  | cons p P ih => rw [List.cons_append, total, total, ih]; omega
def totalN (xs : List ByteArray) (ws : List Int) : List Nat → Nat
  | [] => 0
  | p :: P => stepN xs ws p + totalN xs ws P
theorem totalN_app (xs : List ByteArray) (ws : List Int) (P Q : List Nat) : totalN xs ws (P ++ Q) = totalN xs ws P + totalN xs ws Q := by
  induction P with
  | nil => simp [totalN]
  | cons p P ih => rw [List.cons_append, totalN, totalN, ih]; omega
/-- Objects that differ and are among these have no more words than these. -/
theorem total_le (xs : List ByteArray) (ws : List Int) : ∀ (P : List Int) (L : List Nat), P.Nodup → (∀ p ∈ P, 0 ≤ p ∧ p.toNat ∈ L) → total xs ws P ≤ totalN xs ws L
  | [], _, _, _ => Nat.zero_le _
  | p :: P, L, hn, h => by
    rw [List.nodup_cons] at hn
    obtain ⟨hp0, hpL⟩ := h p (by simp)
    obtain ⟨A, B, rfl⟩ := List.append_of_mem hpL
    have ih := total_le xs ws P (A ++ B) hn.2 (fun q hq => by
      obtain ⟨hq0, hqL⟩ := h q (by simp [hq])
      refine ⟨hq0, ?_⟩
      have hne : q.toNat ≠ p.toNat := fun e => by
        have : q = p := by omega
        subst this
        exact hn.1 hq
      rw [List.mem_append, List.mem_cons] at hqL
      rw [List.mem_append]
      rcases hqL with q1 | q1 | q1
      · exact .inl q1
      · exact absurd q1 hne
      · exact .inr q1)
    rw [totalN_app] at ih ⊢
    rw [total, totalN]
    omega
theorem parseF_total (xs : List ByteArray) (ws : List Int) : ∀ (f a : Nat) (L : List Nat), a ≤ ws.length → parseF xs ws f a = some L → a + totalN xs ws L ≤ ws.length
  | 0, a, L, ha, h => by
    simp only [parseF, Option.some.injEq] at h
    subst h
    simp [totalN]; exact ha
  | f + 1, a, L, ha, h => by
    rw [parseF] at h
    split at h
    · split at h
      · cases h
      · rename_i h1 h2
        obtain ⟨M, hM, rfl⟩ := Option.map_eq_some_iff.1 h
        obtain ⟨_, _, q, e⟩ := stepN_le h2
        have := parseF_total xs ws f (a + stepN xs ws a) M (by omega) hM
        rw [totalN]
        omega
    · simp only [Option.some.injEq] at h
      subst h
      simp [totalN]; exact ha
theorem starts_total {xs : List ByteArray} {z : Int} {ws : List Int} (h : nurB xs z ws = true) : totalN xs ws (startsN xs z ws) ≤ ws.length := by
  have h1 := (nurB_found h).2.1
  have := parseF_total xs ws ws.length 0 _ (Nat.zero_le _) h1
  omega
/-- The references of the first k when they lie one behind the other. -/
def newK (xs : List ByteArray) (ws P : List Int) : Nat → List Int
  | 0 => []
  | k + 1 => newK xs ws P k ++ [2 * (total xs ws (P.take k) : Int) + 1]
theorem newK_len (xs : List ByteArray) (ws P : List Int) (k : Nat) : (newK xs ws P k).length = k := by
  induction k with
  | zero => rfl
  | succ k ih => rw [newK, List.length_append, ih]; rfl
/-- The word with which the object at p begins, behind a collection. -/
def headW (ws : List Int) (p : Int) : Int := 4 * (ws.getD p.toNat 0 / 4) + min (ws.getD p.toNat 0 % 4 + 1) 3
def oneW (xs : List ByteArray) (ws fr to : List Int) (p : Int) : List Int := headW ws p :: fwdL (fwd fr to) (kdH xs (ws.getD p.toNat 0)) (valsA xs ws p.toNat) (valsA xs ws p.toNat).length
def minK (xs : List ByteArray) (ws P fr to : List Int) : Nat → List Int
  | 0 => []
  | k + 1 => minK xs ws P fr to k ++ oneW xs ws fr to (P.getD k 0)
/-- What is known of the objects that are kept. -/
structure Kept (xs : List ByteArray) (ws : List Int) (L : List Nat) (P : List Int) : Prop where
  nd : P.Nodup
  good : ∀ p ∈ P, GoodP L p
  step : ∀ x ∈ L, stepN xs ws x ≠ 0
  tot : totalN xs ws L ≤ 400
theorem Kept.tot4 {xs : List ByteArray} {ws : List Int} {L : List Nat} {P : List Int} (h : Kept xs ws L P) (k : Nat) : total xs ws (P.take k) ≤ 400 :=
  Nat.le_trans (total_le xs ws _ L (h.nd.sublist (List.take_sublist k P)) (fun p hp => by
    have := h.good p (List.mem_of_mem_take hp)
    exact ⟨this.1, this.2.2⟩)) h.tot
theorem total_next {xs : List ByteArray} {ws : List Int} {P : List Int} (k : Nat) (hk : k < P.length) : total xs ws (P.take (k + 1)) = total xs ws (P.take k) + stepN xs ws (P.getD k 0).toNat := by
  rw [List.take_succ_eq_append_getElem hk, total_app, getD_of P k hk]
  simp [total]
theorem Kept.lt {xs : List ByteArray} {ws : List Int} {L : List Nat} {P : List Int} (h : Kept xs ws L P) (k : Nat) (hk : k < P.length) : total xs ws (P.take k) + stepN xs ws (P.getD k 0).toNat ≤ 400 ∧ stepN xs ws (P.getD k 0).toNat ≠ 0 := by
  have h1 := h.tot4 (k + 1)
  rw [total_next k hk] at h1
  refine ⟨h1, h.step _ ?_⟩
  rw [← getD_of P k hk]
  exact (h.good _ (List.getElem_mem hk)).2.2
theorem Kept.ref {xs : List ByteArray} {ws : List Int} {L : List Nat} {P : List Int} (h : Kept xs ws L P) (k : Nat) (hk : k ≤ P.length) : ∀ y ∈ newK xs ws P k, 1 ≤ y ∧ y ≤ 799 ∧ y % 2 = 1 := by
  induction k with
  | zero => intro y hy; cases hy
  | succ k ih =>
    intro y hy
    rw [newK, List.mem_append, List.mem_singleton] at hy
    rcases hy with q | q
    · exact ih (by omega) y q
    · have := h.lt k (by omega)
      subst q
      omega
theorem kind_young {y : Int} (h : 1 ≤ y ∧ y ≤ 799 ∧ y % 2 = 1) : refKind y = 2 := by
  unfold refKind
  rw [if_neg (by omega), if_neg (by omega), if_pos h]
theorem Kept.allRef {xs : List ByteArray} {ws : List Int} {L : List Nat} {P : List Int} (h : Kept xs ws L P) : allRef (newK xs ws P P.length) = true := by
  unfold obj.allRef
  rw [List.all_eq_true]
  intro y hy
  have := kind_young (h.ref P.length (Nat.le_refl _) y hy)
  rw [this]; rfl
theorem Kept.len {xs : List ByteArray} {ws : List Int} {L : List Nat} {P : List Int} (h : Kept xs ws L P) : P.length ≤ 400 := by
  have h1 : ∀ k, k ≤ P.length → k ≤ total xs ws (P.take k) := by
    intro k
    induction k with
    | zero => intro _; exact Nat.zero_le _
    | succ k ih =>
      intro hk
      have h2 := ih (by omega)
      have h3 := (h.lt k (by omega)).2
      rw [total_next k (by omega)]
      omega
  exact Nat.le_trans (h1 P.length (Nat.le_refl _)) (h.tot4 P.length)
theorem Kept.fwdOk {xs : List ByteArray} {ws : List Int} {L : List Nat} {P : List Int} (h : Kept xs ws L P) : fwdOkB (P.map odd) (newK xs ws P P.length) = true := by
  unfold fwdOkB
  rw [newK_len, List.length_map, h.allRef]
  have := h.len
  simp; omega
theorem named_ref {L : List Nat} {r : Int} (h : namedB L r = true) : 0 ≤ refKind r := by
  unfold namedB at h
  rw [Bool.or_eq_true, Bool.or_eq_true, Bool.and_eq_true] at h
  rcases h with q | q | q
  · simp at q; omega
  · simp at q; omega
  · have := q.1; simp at this; omega
/-- An object of a right nursery is right. -/
theorem objOk_at {xs : List ByteArray} {ws : List Int} {L : List Nat} (ht : typesOk xs = true) (hn : namesB xs ws L L = true) {a : Nat} (ha : a ∈ L) (hs : stepN xs ws a ≠ 0) : objOkB xs (ws.getD a 0 / 4) (valsA xs ws a) = true := by
  obtain ⟨_, hp, _, _⟩ := stepN_le hs
  unfold objOkB fitsB
  rw [ht, hp, valsA_len hs]
  have h1 := refsA_named hn ha
  unfold refsA at h1
  rw [valsA_len hs] at h1
  simp only [beq_self_eq_true, Bool.and_true, Bool.true_and]
  unfold obj.allRef
  rw [List.all_eq_true]
  intro r hr
  unfold allNamedB at h1
  exact decide_eq_true (named_ref (List.all_eq_true.1 h1 r hr))
theorem fwB_at {xs : List ByteArray} {ws : List Int} {L : List Nat} {P : List Int} (h : Kept xs ws L P) (ht : typesOk xs = true) (hn : namesB xs ws L L = true) {a : Nat} (ha : a ∈ L) : fwB xs (ws.getD a 0 / 4) (valsA xs ws a) (P.map odd) (newK xs ws P P.length) = true := by
  unfold fwB
  rw [objOk_at ht hn ha (h.step a ha), h.fwdOk]; rfl
theorem oneW_len (xs : List ByteArray) (ws fr to : List Int) (p : Int) (h : stepN xs ws p.toNat ≠ 0) : (oneW xs ws fr to p).length = stepN xs ws p.toNat := by
  unfold oneW
  rw [List.length_cons, fwdL_len, valsA_len h, (stepN_le h).2.2.2]; omega
theorem Kept.minK_len {xs : List ByteArray} {ws : List Int} {L : List Nat} {P : List Int} (h : Kept xs ws L P) (fr to : List Int) (k : Nat) (hk : k ≤ P.length) : (minK xs ws P fr to k).length = total xs ws (P.take k) := by
  induction k with
  | zero => rfl
  | succ k ih =>
    rw [minK, List.length_append, ih (by omega), total_next k (by omega), oneW_len]
    exact (h.lt k (by omega)).2
end Go.Proofs.Ytngpmohmnpbcnaa.mi
