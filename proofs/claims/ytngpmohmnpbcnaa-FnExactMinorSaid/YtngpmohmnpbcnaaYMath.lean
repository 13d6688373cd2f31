/-
  Nurseries as numbers: the objects with which the words begin, one behind the other; which references they may name.
-/
import Derived.Test.YtngpmohmnpbcnaaObj1
import Derived.Test.YtngpmohmnpbcnaaPlace
namespace Go.Proofs.Ytngpmohmnpbcnaa.nu
open Go.RowKit
open kinds ints ref obj

theorem getD_of (ws : List Int) (k : Nat) (h : k < ws.length) : ws[k] = ws.getD k 0 := by
  rw [List.getD_eq_getElem?_getD, List.getElem?_eq_getElem h]; rfl
/-- The kinds of the object whose head is a number. -/
abbrev kdH (xs : List ByteArray) (h : Int) : ByteArray := kd xs (h / 4)
/-- How many words the object has with which the words from a place on begin; 0: none. -/
def stepN (xs : List ByteArray) (ws : List Int) (at' : Nat) : Nat :=
  if 0 ≤ ws.getD at' 0 ∧ placeB xs.length (ws.getD at' 0 / 4) = true ∧ at' + 1 + (kdH xs (ws.getD at' 0)).size ≤ ws.length then 1 + (kdH xs (ws.getD at' 0)).size else 0
def parseF (xs : List ByteArray) (ws : List Int) : Nat → Nat → Option (List Nat)
  | 0, _ => some []
  | f + 1, a => if a < ws.length then (if stepN xs ws a = 0 then none else (parseF xs ws f (a + stepN xs ws a)).map (a :: ·)) else some []
def parsed (xs : List ByteArray) (ws : List Int) : Option (List Nat) := parseF xs ws ws.length 0
theorem parse_end (xs : List ByteArray) (ws : List Int) (f a : Nat) (h : ws.length ≤ a) : parseF xs ws f a = some [] := by
  cases f with
  | zero => rfl
  | succ f => rw [parseF, if_neg (by omega)]
theorem stepN_le {xs : List ByteArray} {ws : List Int} {a : Nat} (h : stepN xs ws a ≠ 0) : 0 ≤ ws.getD a 0 ∧ placeB xs.length (ws.getD a 0 / 4) = true ∧ a + 1 + (kdH xs (ws.getD a 0)).size ≤ ws.length ∧ stepN xs ws a = 1 + (kdH xs (ws.getD a 0)).size := by
  unfold stepN at h ⊢
  split
  · rename_i q; exact ⟨q.1, q.2.1, q.2.2, rfl⟩
  · rename_i q; rw [if_neg q] at h; exact absurd rfl h
/-- Where a walk over the words stands, and the beginnings that it found. -/
structure Walk (xs : List ByteArray) (ws : List Int) (a : Nat) (L : List Nat) : Prop where
  le : a ≤ ws.length
  eq : ∃ f, ws.length ≤ a + f ∧ parsed xs ws = (parseF xs ws f a).map (L ++ ·)
  lt : ∀ x ∈ L, x < a
  good : ∀ x ∈ L, stepN xs ws x ≠ 0
  len : L.length ≤ a
theorem Walk.start (xs : List ByteArray) (ws : List Int) : Walk xs ws 0 [] :=
  ⟨Nat.zero_le _, ⟨ws.length, by omega, by unfold parsed; cases parseF xs ws ws.length 0 <;> simp⟩, (fun x hx => by cases hx), (fun x hx => by cases hx), Nat.le_refl _⟩
theorem Walk.fuel {xs : List ByteArray} {ws : List Int} {a : Nat} {L : List Nat} (h : Walk xs ws a L) (hl : a < ws.length) : ∃ f, ws.length ≤ a + (f + 1) ∧ parsed xs ws = (parseF xs ws (f + 1) a).map (L ++ ·) := by
  obtain ⟨f, h1, h2⟩ := h.eq
  obtain ⟨g, rfl⟩ : ∃ g, f = g + 1 := ⟨f - 1, by omega⟩
  exact ⟨g, h1, h2⟩
theorem Walk.no {xs : List ByteArray} {ws : List Int} {a : Nat} {L : List Nat} (h : Walk xs ws a L) (hl : a < ws.length) (hs : stepN xs ws a = 0) : parsed xs ws = none := by
  obtain ⟨f, _, h2⟩ := h.fuel hl
  rw [h2, parseF, if_pos hl, if_pos hs]; rfl
theorem Walk.next {xs : List ByteArray} {ws : List Int} {a : Nat} {L : List Nat} (h : Walk xs ws a L) (hl : a < ws.length) (hs : stepN xs ws a ≠ 0) : Walk xs ws (a + stepN xs ws a) (L ++ [a]) := by
  obtain ⟨f, h1, h2⟩ := h.fuel hl
  obtain ⟨_, _, q, e⟩ := stepN_le hs
  refine ⟨by omega, ⟨f, by omega, ?_⟩, ?_, ?_, ?_⟩
  · rw [h2, parseF, if_pos hl, if_neg hs]
    cases parseF xs ws f (a + stepN xs ws a) <;> simp
  · intro x hx
    rcases List.mem_append.1 hx with q | q
    · have := h.lt x q; omega
    · rw [List.mem_singleton] at q; omega
  · intro x hx
    rcases List.mem_append.1 hx with q | q
    · exact h.good x q
    · rw [List.mem_singleton] at q; rw [q]; exact hs
  · have := h.len; simp; omega
theorem Walk.done {xs : List ByteArray} {ws : List Int} {a : Nat} {L : List Nat} (h : Walk xs ws a L) (hl : ¬ a < ws.length) : parsed xs ws = some L := by
  obtain ⟨f, _, h2⟩ := h.eq
  rw [h2, parse_end xs ws f a (by omega)]; simp
theorem Walk.fresh {xs : List ByteArray} {ws : List Int} {a : Nat} {L : List Nat} (h : Walk xs ws a L) : a ∉ L := fun q => Nat.lt_irrefl _ (h.lt a q)
/-- What a walk that came to the end found. -/
structure Found (xs : List ByteArray) (ws : List Int) (L : List Nat) : Prop where
  eq : parsed xs ws = some L
  good : ∀ x ∈ L, stepN xs ws x ≠ 0
  len : L.length ≤ ws.length
theorem Walk.found {xs : List ByteArray} {ws : List Int} {a : Nat} {L : List Nat} (h : Walk xs ws a L) (hl : ¬ a < ws.length) : Found xs ws L := ⟨h.done hl, h.good, Nat.le_trans h.len h.le⟩
/-- The values of the object that begins at a word. -/
def valsA (xs : List ByteArray) (ws : List Int) (a : Nat) : List Int := (ws.drop (a + 1)).take (kdH xs (ws.getD a 0)).size
theorem valsA_len {xs : List ByteArray} {ws : List Int} {a : Nat} (h : stepN xs ws a ≠ 0) : (valsA xs ws a).length = (kdH xs (ws.getD a 0)).size := by
  obtain ⟨_, _, q, _⟩ := stepN_le h
  unfold valsA
  rw [List.length_take, List.length_drop]; omega
theorem valsA_at {xs : List ByteArray} {ws : List Int} {a : Nat} (h : stepN xs ws a ≠ 0) (k : Nat) (hk : k < (valsA xs ws a).length) : (valsA xs ws a).getD k 0 = ws.getD (a + 1 + k) 0 := by
  rw [valsA_len h] at hk
  unfold valsA
  generalize (kdH xs (ws.getD a 0)).size = n at hk ⊢
  rw [List.getD_eq_getElem?_getD, List.getD_eq_getElem?_getD, List.getElem?_take, if_pos hk, List.getElem?_drop]
def refsA (xs : List ByteArray) (ws : List Int) (a : Nat) : List Int := refsL (kdH xs (ws.getD a 0)) (valsA xs ws a) (valsA xs ws a).length
def inB (L : List Nat) (p : Int) : Bool := decide (0 ≤ p) && decide (p.toNat ∈ L)
def namedB (L : List Nat) (r : Int) : Bool := (refKind r == 0) || ((refKind r == 1) || ((refKind r == 2) && inB L (r / 2)))
def allNamedB (L : List Nat) (l : List Int) : Bool := l.all (namedB L)
theorem allNamed_snoc (L : List Nat) (l : List Int) (r : Int) : allNamedB L (l ++ [r]) = (allNamedB L l && namedB L r) := by simp [allNamedB]
theorem allNamed_no {L : List Nat} {l : List Int} {k : Nat} (h : allNamedB L (l.take k) = false) : allNamedB L l = false := by
  unfold allNamedB at h ⊢
  rw [List.all_eq_false] at h ⊢
  obtain ⟨x, hx, q⟩ := h
  exact ⟨x, List.mem_of_mem_take hx, q⟩
theorem allNamed_le (L : List Nat) (s : ByteArray) (vs : List Int) (k n : Nat) (h : k ≤ n) (hf : allNamedB L (refsL s vs k) = false) : allNamedB L (refsL s vs n) = false := by
  induction n with
  | zero => rw [show k = 0 by omega] at hf; exact hf
  | succ n ih =>
    by_cases e : k = n + 1
    · rw [← e]; exact hf
    · rw [refsL]
      split
      · rw [allNamed_snoc, ih (by omega)]; rfl
      · exact ih (by omega)
/-- Whether the references of all these objects may be named. -/
def namesB (xs : List ByteArray) (ws : List Int) (L M : List Nat) : Bool := M.all fun a => allNamedB L (refsA xs ws a)
theorem names_snoc (xs : List ByteArray) (ws : List Int) (L M : List Nat) (a : Nat) : namesB xs ws L (M ++ [a]) = (namesB xs ws L M && allNamedB L (refsA xs ws a)) := by simp [namesB]
theorem names_no {xs : List ByteArray} {ws : List Int} {L M : List Nat} {k : Nat} (h : namesB xs ws L (M.take k) = false) : namesB xs ws L M = false := by
  unfold namesB at h ⊢
  rw [List.all_eq_false] at h ⊢
  obtain ⟨x, hx, q⟩ := h
  exact ⟨x, List.mem_of_mem_take hx, q⟩
def preN (xs : List ByteArray) (z : Int) (ws : List Int) : Bool := typesOk xs && ((decide (2 ≤ z) && decide (z ≤ 400)) && decide ((ws.length : Int) ≤ z))
/-- Whether a nursery is right. -/
def nurB (xs : List ByteArray) (z : Int) (ws : List Int) : Bool := preN xs z ws && (match parsed xs ws with | none => false | some L => namesB xs ws L L)
def startsN (xs : List ByteArray) (z : Int) (ws : List Int) : List Nat := if nurB xs z ws = true then (parsed xs ws).getD [] else []
theorem nurB_pre {xs : List ByteArray} {z : Int} {ws : List Int} (h : preN xs z ws = false) : nurB xs z ws = false := by unfold nurB; rw [h]; rfl
theorem nurB_none {xs : List ByteArray} {z : Int} {ws : List Int} (h : parsed xs ws = none) : nurB xs z ws = false := by unfold nurB; rw [h]; simp
theorem nurB_some {xs : List ByteArray} {z : Int} {ws : List Int} {L : List Nat} (hp : preN xs z ws = true) (h : parsed xs ws = some L) : nurB xs z ws = namesB xs ws L L := by unfold nurB; rw [h, hp]; rfl
theorem nurB_found {xs : List ByteArray} {z : Int} {ws : List Int} (h : nurB xs z ws = true) : preN xs z ws = true ∧ parsed xs ws = some (startsN xs z ws) ∧ namesB xs ws (startsN xs z ws) (startsN xs z ws) = true := by
  have h0 := h
  unfold nurB at h
  rw [Bool.and_eq_true] at h
  obtain ⟨h1, h2⟩ := h
  unfold startsN
  rw [if_pos h0]
  cases hp : parsed xs ws with
  | none => rw [hp] at h2; cases h2
  | some L => rw [hp] at h2; exact ⟨h1, rfl, h2⟩
theorem preN_facts {xs : List ByteArray} {z : Int} {ws : List Int} (h : preN xs z ws = true) : typesOk xs = true ∧ 2 ≤ z ∧ z ≤ 400 ∧ (ws.length : Int) ≤ z := by
  unfold preN at h
  rw [Bool.and_eq_true, Bool.and_eq_true, Bool.and_eq_true] at h
  exact ⟨h.1, of_decide_eq_true h.2.1.1, of_decide_eq_true h.2.1.2, of_decide_eq_true h.2.2⟩
/-- The beginnings as whole numbers. -/
def numsOf (L : List Nat) : List Int := L.map fun (a : Nat) => (a : Int)
theorem numsOf_len (L : List Nat) : (numsOf L).length = L.length := by simp [numsOf]
theorem numsOf_snoc (L : List Nat) (a : Nat) : numsOf (L ++ [a]) = numsOf L ++ [(a : Int)] := by simp [numsOf]
theorem seekI_mem (r : Int) (l : List Int) (k : Nat) (hk : k ≤ l.length) : (0 ≤ seekI r l k) ↔ r ∈ l.take k := by
  induction k with
  | zero => simp [seekI]
  | succ k ih =>
    have hl : k < l.length := by omega
    rw [seekI, List.take_succ_eq_append_getElem hl, List.mem_append, List.mem_singleton, getD_of l k hl]
    have := ih (by omega)
    split
    · rename_i q; exact ⟨fun _ => .inl (this.1 q), fun _ => q⟩
    · rename_i q
      split
      · rename_i e; exact ⟨fun _ => .inr e.symm, fun _ => by omega⟩
      · rename_i e
        constructor
        · intro z; omega
        · rintro (z | z)
          · exact absurd (this.2 z) q
          · exact absurd z.symm e
theorem seekI_in2 (L : List Nat) (r : Int) (h : 0 ≤ r) : decide (0 ≤ seekI r (numsOf L) (numsOf L).length) = inB L r := by
  have h1 := seekI_mem r (numsOf L) (numsOf L).length (Nat.le_refl _)
  rw [List.take_length] at h1
  unfold inB
  rw [decide_eq_true h, Bool.true_and]
  refine decide_eq_decide.2 (h1.trans ?_)
  unfold numsOf
  rw [List.mem_map]
  constructor
  · rintro ⟨a, ha, rfl⟩; rw [Int.toNat_natCast]; exact ha
  · intro ha; exact ⟨r.toNat, ha, Int.toNat_of_nonneg h⟩
end Go.Proofs.Ytngpmohmnpbcnaa.nu
