/-
  What is reached in a nursery, as references and as places; the maths alone.
-/
import Derived.Test.YtngpmohmnpbcnaaClMath
import Derived.Test.YtngpmohmnpbcnaaYMath
namespace Go.Proofs.Ytngpmohmnpbcnaa.cl
open Go.RowKit
open kinds ints ref obj nu

/-- The young ones among these references. -/
def yAmong (l : List Int) : List Int := l.filter fun r => decide (refKind r = 2)
theorem yAmong_snoc (l : List Int) (r : Int) : yAmong (l ++ [r]) = if refKind r = 2 then yAmong l ++ [r] else yAmong l := by
  unfold yAmong
  rw [List.filter_append]
  by_cases h : refKind r = 2
  · simp [h]
  · simp [h]
theorem yAmong_mem {l : List Int} {r : Int} (h : r ∈ yAmong l) : r ∈ l ∧ refKind r = 2 := by
  unfold yAmong at h
  rw [List.mem_filter] at h
  exact ⟨h.1, of_decide_eq_true h.2⟩
theorem young_facts {r : Int} (h : refKind r = 2) : 1 ≤ r ∧ r ≤ 799 ∧ r % 2 = 1 := by
  unfold refKind at h
  split at h
  · cases h
  · split at h
    · cases h
    · split at h
      · rename_i q; exact q
      · cases h
/-- What an object of a nursery names that is young; the object by its reference. -/
def nmR (xs : List ByteArray) (ws : List Int) (r : Int) : List Int := yAmong (refsA xs ws (r / 2).toNat)
/-- As nmR, by places. -/
def nmP (xs : List ByteArray) (ws : List Int) (p : Int) : List Int := (yAmong (refsA xs ws p.toNat)).map fun r => r / 2
/-- What is reached: its references. -/
def clR (xs : List ByteArray) (ws : List Int) (m : Nat) (roots : List Int) : List Int := closN (nmR xs ws) m (yAmong roots)
/-- What is reached: its places. -/
def clP (xs : List ByteArray) (ws : List Int) (m : Nat) (roots : List Int) : List Int := closN (nmP xs ws) m ((yAmong roots).map fun r => r / 2)
def odd (p : Int) : Int := 2 * p + 1
theorem odd_mem (L : List Int) (x : Int) : odd x ∈ L.map odd ↔ x ∈ L := by
  rw [List.mem_map]
  constructor
  · rintro ⟨y, hy, e⟩
    unfold odd at e
    rw [show x = y by omega]; exact hy
  · intro h; exact ⟨x, h, rfl⟩
theorem pushN_odd (L : List Int) (x : Int) : pushN (L.map odd) (odd x) = (pushN L x).map odd := by
  unfold pushN
  by_cases h : x ∈ L
  · rw [if_pos h, if_pos ((odd_mem L x).2 h)]
  · rw [if_neg h, if_neg (fun q => h ((odd_mem L x).1 q)), List.map_append]; rfl
theorem findN_odd : ∀ (xs L : List Int), findN (L.map odd) (xs.map odd) = (findN L xs).map odd
  | [], _ => rfl
  | x :: xs, L => by rw [List.map_cons, findN_cons, findN_cons, pushN_odd, findN_odd xs]
theorem workN_odd {nm nm2 : Int → List Int} (h : ∀ p, nm (odd p) = (nm2 p).map odd) : ∀ (f i : Nat) (L : List Int), workN nm f i (L.map odd) = (workN nm2 f i L).map odd
  | 0, _, _ => rfl
  | f + 1, i, L => by
    rw [workN, workN, List.getElem?_map]
    cases hx : L[i]? with
    | none => rfl
    | some x =>
      show workN nm f (i + 1) (findN (L.map odd) (nm (odd x))) = _
      rw [h x, findN_odd, workN_odd h f]
theorem among_odd (l : List Int) : yAmong l = ((yAmong l).map fun r => r / 2).map odd := by
  rw [List.map_map]
  have : ∀ r ∈ yAmong l, (odd ∘ fun r => r / 2) r = r := fun r hr => by
    have := young_facts (yAmong_mem hr).2
    show 2 * (r / 2) + 1 = r
    omega
  conv => lhs; rw [← List.map_id (yAmong l)]
  exact List.map_congr_left fun r hr => (this r hr).symm
theorem nm_odd (xs : List ByteArray) (ws : List Int) (p : Int) : nmR xs ws (odd p) = (nmP xs ws p).map odd := by
  unfold nmR nmP
  rw [show odd p / 2 = p by unfold odd; omega]
  exact among_odd _
theorem clR_clP (xs : List ByteArray) (ws : List Int) (m : Nat) (roots : List Int) : clR xs ws m roots = (clP xs ws m roots).map odd := by
  unfold clR clP closN
  have h := findN_odd ((yAmong roots).map fun r => r / 2) []
  rw [List.map_nil, ← among_odd roots] at h
  rw [h]
  exact workN_odd (nm_odd xs ws) m 0 _
/-- What may stand in the list: a young reference of an object that is there. -/
def GoodR (L : List Nat) (r : Int) : Prop := refKind r = 2 ∧ inB L (r / 2) = true
def GoodP (L : List Nat) (p : Int) : Prop := 0 ≤ p ∧ p ≤ 399 ∧ p.toNat ∈ L
theorem inB_facts {L : List Nat} {p : Int} (h : inB L p = true) : 0 ≤ p ∧ p.toNat ∈ L := by
  unfold inB at h
  rw [Bool.and_eq_true] at h
  exact ⟨of_decide_eq_true h.1, of_decide_eq_true h.2⟩
theorem named_good {L : List Nat} {r : Int} (h : namedB L r = true) (hk : refKind r = 2) : GoodR L r := by
  unfold namedB at h
  rw [hk] at h
  simp at h
  exact ⟨hk, h⟩
theorem among_good {L : List Nat} {l : List Int} (h : allNamedB L l = true) : ∀ r ∈ yAmong l, GoodR L r := fun r hr => by
  obtain ⟨h1, h2⟩ := yAmong_mem hr
  unfold allNamedB at h
  exact named_good (List.all_eq_true.1 h r h1) h2
theorem good_half {L : List Nat} {r : Int} (h : GoodR L r) : GoodP L (r / 2) := by
  have h1 := young_facts h.1
  have h2 := inB_facts h.2
  exact ⟨h2.1, by omega, h2.2⟩
theorem halves_good {L : List Nat} {l : List Int} (h : allNamedB L l = true) : ∀ p ∈ (yAmong l).map (fun r => r / 2), GoodP L p := fun p hp => by
  obtain ⟨r, hr, rfl⟩ := List.mem_map.1 hp
  exact good_half (among_good h r hr)
theorem refsA_named {xs : List ByteArray} {ws : List Int} {L : List Nat} (h : namesB xs ws L L = true) {a : Nat} (ha : a ∈ L) : allNamedB L (refsA xs ws a) = true := List.all_eq_true.1 h a ha
theorem nmR_good {xs : List ByteArray} {ws : List Int} {L : List Nat} (h : namesB xs ws L L = true) {r : Int} (hr : GoodR L r) : ∀ y ∈ nmR xs ws r, GoodR L y :=
  among_good (refsA_named h (inB_facts hr.2).2)
theorem nmP_good {xs : List ByteArray} {ws : List Int} {L : List Nat} (h : namesB xs ws L L = true) {p : Int} (hp : GoodP L p) : ∀ y ∈ nmP xs ws p, GoodP L y :=
  halves_good (refsA_named h hp.2.2)
theorem goodP_len {L : List Nat} {Q : List Int} (hn : Q.Nodup) (h : ∀ p ∈ Q, GoodP L p) : Q.length ≤ L.length := by
  have := nodup_len (L := Q) (S := numsOf L) hn (fun p hp => by
    obtain ⟨h0, _, h2⟩ := h p hp
    unfold numsOf
    exact List.mem_map.2 ⟨p.toNat, h2, Int.toNat_of_nonneg h0⟩)
  rwa [numsOf_len] at this
theorem nodup_half {L : List Nat} {Q : List Int} (hn : Q.Nodup) (h : ∀ r ∈ Q, GoodR L r) : (Q.map fun r => r / 2).Nodup := by
  unfold List.Nodup at hn ⊢
  rw [List.pairwise_map]
  refine hn.imp_of_mem ?_
  intro a b ha hb hab e
  have h1 := young_facts (h a ha).1
  have h2 := young_facts (h b hb).1
  exact hab (by omega)
theorem goodR_len {L : List Nat} {Q : List Int} (hn : Q.Nodup) (h : ∀ r ∈ Q, GoodR L r) : Q.length ≤ L.length := by
  have := goodP_len (nodup_half hn h) (fun p hp => by
    obtain ⟨r, hr, rfl⟩ := List.mem_map.1 hp
    exact good_half (h r hr))
  simpa using this
/-- What the list of the work keeps: each once, all good, and what it ends with. -/
structure Wk (G : Int → Prop) (nm : Int → List Int) (m : Nat) (R : List Int) (i : Nat) (Q : List Int) : Prop where
  nd : Q.Nodup
  good : ∀ r ∈ Q, G r
  end' : workN nm (m - i) i Q = R
theorem Wk.stop {G : Int → Prop} {nm : Int → List Int} {m : Nat} {R : List Int} {i : Nat} {Q : List Int} (h : Wk G nm m R i Q) (hi : Q.length ≤ i) : Q = R := by
  rw [← h.end', workN_stop nm _ i Q hi]
theorem Wk.step {G : Int → Prop} {nm : Int → List Int} {m : Nat} {R : List Int} {i : Nat} {Q : List Int} (h : Wk G nm m R i Q) (hi : i < Q.length) (hm : Q.length ≤ m) (hg : ∀ r, G r → ∀ y ∈ nm r, G y) : Wk G nm m R (i + 1) (findN Q (nm Q[i])) := by
  refine ⟨findN_nodup h.nd, findN_sub h.good (hg _ (h.good _ (List.getElem_mem hi))), ?_⟩
  have := h.end'
  rw [show m - i = (m - (i + 1)) + 1 by omega, workN_step nm _ i Q hi] at this
  exact this
theorem Wk.start {G : Int → Prop} {nm : Int → List Int} {m : Nat} {first : List Int} (h : ∀ r ∈ first, G r) : Wk G nm m (closN nm m first) 0 (findN [] first) :=
  ⟨findN_nodup List.nodup_nil, findN_sub (fun _ h => by cases h) h, rfl⟩
theorem Wk.last {G : Int → Prop} {nm : Int → List Int} (hg : ∀ r, G r → ∀ y ∈ nm r, G y) : ∀ (f i : Nat) (Q : List Int), Q.Nodup → (∀ r ∈ Q, G r) → (workN nm f i Q).Nodup ∧ ∀ r ∈ workN nm f i Q, G r
  | 0, _, _, h1, h2 => ⟨h1, h2⟩
  | f + 1, i, Q, h1, h2 => by
    rw [workN]
    cases hx : Q[i]? with
    | none => exact ⟨h1, h2⟩
    | some x => exact Wk.last hg f (i + 1) _ (findN_nodup h1) (findN_sub h2 (hg x (h2 x (List.mem_of_getElem? hx))))
theorem clR_good {xs : List ByteArray} {ws : List Int} {L : List Nat} {roots : List Int} (h : namesB xs ws L L = true) (hr : allNamedB L roots = true) (m : Nat) : (clR xs ws m roots).Nodup ∧ ∀ r ∈ clR xs ws m roots, GoodR L r :=
  Wk.last (fun r hr => nmR_good h hr) m 0 _ (findN_nodup List.nodup_nil) (findN_sub (fun _ h => by cases h) (among_good hr))
theorem clP_good {xs : List ByteArray} {ws : List Int} {L : List Nat} {roots : List Int} (h : namesB xs ws L L = true) (hr : allNamedB L roots = true) (m : Nat) : (clP xs ws m roots).Nodup ∧ ∀ r ∈ clP xs ws m roots, GoodP L r :=
  Wk.last (fun r hr => nmP_good h hr) m 0 _ (findN_nodup List.nodup_nil) (findN_sub (fun _ h => by cases h) (halves_good hr))
end Go.Proofs.Ytngpmohmnpbcnaa.cl
