/-
  What is true of the gaps of a map: they rise, they are free, every free line lies in one, behind each there is a line that is taken; how long they are together; where the first run begins.
-/
import Derived.Test.YtomlogkbndmaaaaGaps
namespace Go.Proofs.Ytomlogkbndmaaaa.lb
open Go.RowKit

structure GapInv (l : List UInt8) (A k : Nat) (G : List (Nat × Nat)) : Prop where
  rise : G.Pairwise fun s t => s.1 + s.2 < t.1
  part : ∀ s ∈ G, A ≤ s.1 ∧ s.1 + s.2 ≤ A + k ∧ 1 ≤ s.2
  free : ∀ s ∈ G, ∀ j, s.1 ≤ j → j < s.1 + s.2 → bitAt l j = false
  all : ∀ u, A ≤ u → u < A + k → bitAt l u = false → ∃ s ∈ G, s.1 ≤ u ∧ u < s.1 + s.2
  most : ∀ s ∈ G, s.1 + s.2 < A + k → bitAt l (s.1 + s.2) = true
theorem gapInv (l : List UInt8) (A k : Nat) : GapInv l A k (gapsK l A k) := by
  induction k with
  | zero => exact ⟨List.Pairwise.nil, fun s h => by simp [gapsK] at h, fun s h => by simp [gapsK] at h, fun u h1 h2 => by omega, fun s h => by simp [gapsK] at h⟩
  | succ k ih =>
    obtain ⟨i1, i2, i3, i4, i5⟩ := ih
    have kn := gapsK_known l A k
    rw [gapsK]
    by_cases hb : bitAt l (A + k) = true
    · rw [if_pos hb]
      refine ⟨i1, fun s h => by have := i2 s h; omega, i3, fun u h1 h2 h3 => ?_, fun s h h1 => ?_⟩
      · by_cases e : u = A + k
        · rw [e, hb] at h3; cases h3
        · exact i4 u h1 (by omega) h3
      · by_cases e : s.1 + s.2 = A + k
        · rw [e]; exact hb
        · have := i2 s h; exact i5 s h (by omega)
    · have hf : bitAt l (A + k) = false := by simpa using hb
      rw [if_neg hb]
      by_cases hg : inGapB l A k = true
      · rw [if_pos hg]
        obtain ⟨F, p, q, e0⟩ := snoc_of (kn.2.1 hg)
        obtain ⟨h4, h5, h6⟩ := kn.2.2 F p q e0
        have h7 := h6.2 hg
        rw [e0] at i1 i2 i3 i4 i5
        rw [e0, bump_snoc]
        rw [List.pairwise_append] at i1
        obtain ⟨j1, _, j3⟩ := i1
        have hlast := i2 (p, q) (by simp)
        simp only at hlast
        refine ⟨?_, ?_, ?_, ?_, ?_⟩
        · rw [List.pairwise_append]
          refine ⟨j1, List.pairwise_singleton _ _, fun s hs t ht => ?_⟩
          simp at ht
          subst ht
          exact j3 s hs (p, q) (by simp)
        · intro s hs
          rcases List.mem_append.1 hs with h | h
          · have := i2 s (by simp [h]); omega
          · simp at h; subst h; simp; omega
        · intro s hs j h1 h2
          rcases List.mem_append.1 hs with h | h
          · exact i3 s (by simp [h]) j h1 h2
          · simp at h
            subst h
            simp only at h1 h2
            by_cases e : j = A + k
            · rw [e]; exact hf
            · exact i3 (p, q) (by simp) j h1 (by simp only; omega)
        · intro u h1 h2 h3
          by_cases e : u = A + k
          · exact ⟨(p, q + 1), by simp, by simp only; omega, by simp only; omega⟩
          · obtain ⟨s, hs, k1, k2⟩ := i4 u h1 (by omega) h3
            rcases List.mem_append.1 hs with h | h
            · exact ⟨s, by simp [h], k1, k2⟩
            · simp at h
              subst h
              exact ⟨(p, q + 1), by simp, k1, by simp only at k2 ⊢; omega⟩
        · intro s hs h1
          rcases List.mem_append.1 hs with h | h
          · have := j3 s h (p, q) (by simp)
            simp only at this
            exact i5 s (by simp [h]) (by omega)
          · simp at h; subst h; simp only at h1; omega
      · rw [if_neg hg]
        have hne : ∀ s ∈ gapsK l A k, s.1 + s.2 < A + k := by
          intro s hs
          have hp := i2 s hs
          by_cases e : s.1 + s.2 = A + k
          · exfalso
            apply hg
            cases k with
            | zero => omega
            | succ k =>
              show (!bitAt l (A + k)) = true
              rw [i3 s hs (A + k) (by omega) (by omega)]
              rfl
          · omega
        refine ⟨?_, ?_, ?_, ?_, ?_⟩
        · rw [List.pairwise_append]
          refine ⟨i1, List.pairwise_singleton _ _, fun s hs t ht => ?_⟩
          simp at ht
          subst ht
          exact hne s hs
        · intro s hs
          rcases List.mem_append.1 hs with h | h
          · have := i2 s h; omega
          · simp at h; subst h; simp; omega
        · intro s hs j h1 h2
          rcases List.mem_append.1 hs with h | h
          · exact i3 s h j h1 h2
          · simp at h
            subst h
            simp only at h1 h2
            rw [show j = A + k by omega]; exact hf
        · intro u h1 h2 h3
          by_cases e : u = A + k
          · exact ⟨(A + k, 1), by simp, by simp only; omega, by simp only; omega⟩
          · obtain ⟨s, hs, k1, k2⟩ := i4 u h1 (by omega) h3
            exact ⟨s, by simp [hs], k1, k2⟩
        · intro s hs h1
          rcases List.mem_append.1 hs with h | h
          · exact i5 s h (hne s h)
          · simp at h; subst h; simp only at h1; omega
/-- How long they are together. -/
def sumLen (G : List (Nat × Nat)) : Nat := (G.map (·.2)).sum
theorem sumLen_snoc (G : List (Nat × Nat)) (p q : Nat) : sumLen (G ++ [(p, q)]) = sumLen G + q := by simp [sumLen]
def freeN (l : List UInt8) (a : Nat) : Nat → Nat
  | 0 => 0
  | k + 1 => freeN l a k + (if bitAt l (a + k) = true then 0 else 1)
theorem freeN_le (l : List UInt8) (a k : Nat) : freeN l a k ≤ k := by
  induction k with
  | zero => exact Nat.le_refl _
  | succ k ih => rw [freeN]; split <;> omega
theorem sum_gaps (l : List UInt8) (a k : Nat) : sumLen (gapsK l a k) = freeN l a k := by
  induction k with
  | zero => rfl
  | succ k ih =>
    rw [gapsK, freeN]
    by_cases hb : bitAt l (a + k) = true
    · rw [if_pos hb, if_pos hb, ih]; rfl
    · rw [if_neg hb, if_neg hb]
      by_cases hg : inGapB l a k = true
      · rw [if_pos hg]
        obtain ⟨F, p, q, e0⟩ := snoc_of ((gapsK_known l a k).2.1 hg)
        rw [e0, sumLen_snoc] at ih
        rw [e0, bump_snoc, sumLen_snoc]
        omega
      · rw [if_neg hg, sumLen_snoc, ih]
theorem sumLen_take (G : List (Nat × Nat)) (k : Nat) (hk : k < G.length) : sumLen (G.take (k + 1)) = sumLen (G.take k) + (G[k]).2 := by
  rw [List.take_succ_eq_append_getElem hk, show G[k] = ((G[k]).1, (G[k]).2) from rfl, sumLen_snoc]
theorem sumLen_take_le (G : List (Nat × Nat)) (k : Nat) : sumLen (G.take k) ≤ sumLen G := by
  have : G = G.take k ++ G.drop k := (List.take_append_drop k G).symm
  have e : sumLen G = sumLen (G.take k) + sumLen (G.drop k) := by
    conv => lhs; rw [this]
    unfold sumLen
    rw [List.map_append, List.sum_append]
  omega
/-- The first gap that is long enough. -/
def findG (n : Nat) : List (Nat × Nat) → Int
  | [] => -1
  | s :: G => if n ≤ s.2 then (s.1 : Int) else findG n G
theorem findG_is (n : Nat) : ∀ G : List (Nat × Nat), (G.Pairwise fun s t => s.1 + s.2 < t.1) → (∃ s ∈ G, n ≤ s.2 ∧ findG n G = (s.1 : Int) ∧ ∀ t ∈ G, n ≤ t.2 → s.1 ≤ t.1) ∨ (findG n G = -1 ∧ ∀ t ∈ G, t.2 < n)
  | [], _ => .inr ⟨rfl, fun t h => by simp at h⟩
  | s :: G, hp => by
    rw [List.pairwise_cons] at hp
    rw [findG]
    by_cases h : n ≤ s.2
    · rw [if_pos h]
      refine .inl ⟨s, by simp, h, rfl, fun t ht _ => ?_⟩
      rcases List.mem_cons.1 ht with rfl | ht
      · exact Nat.le_refl _
      · have := hp.1 t ht; omega
    · rw [if_neg h]
      rcases findG_is n G hp.2 with ⟨t, ht, h1, h2, h3⟩ | ⟨h1, h2⟩
      · refine .inl ⟨t, by simp [ht], h1, h2, fun r hr hn => ?_⟩
        rcases List.mem_cons.1 hr with rfl | hr
        · exact absurd hn h
        · exact h3 r hr hn
      · refine .inr ⟨h1, fun t ht => ?_⟩
        rcases List.mem_cons.1 ht with rfl | ht
        · omega
        · exact h2 t ht
/-- The first line with which n free ones begin. -/
def IsFirst (l : List UInt8) (A N n : Nat) (r : Int) : Prop :=
  (∃ t : Nat, r = (t : Int) ∧ A ≤ t ∧ t + n ≤ A + N ∧ freeK l t n = true ∧ ∀ u, A ≤ u → u < t → freeK l u n = false) ∨ (r = -1 ∧ ∀ u, A ≤ u → u + n ≤ A + N → freeK l u n = false)
theorem IsFirst.unique {l : List UInt8} {A N n : Nat} {r r' : Int} (h : IsFirst l A N n r) (h' : IsFirst l A N n r') : r = r' := by
  rcases h with ⟨t, rfl, h1, h2, h3, h4⟩ | ⟨rfl, h1⟩
  · rcases h' with ⟨t', rfl, k1, k2, k3, k4⟩ | ⟨rfl, k1⟩
    · by_cases e : t < t'
      · rw [k4 t h1 e] at h3; cases h3
      · by_cases e' : t' < t
        · rw [h4 t' k1 e'] at k3; cases k3
        · rw [show t = t' by omega]
    · rw [k1 t h1 h2] at h3; cases h3
  · rcases h' with ⟨t', rfl, k1, k2, k3, k4⟩ | ⟨rfl, k1⟩
    · rw [h1 t' k1 k2] at k3; cases k3
    · rfl
theorem run_in_gap {l : List UInt8} {A N n u : Nat} {G : List (Nat × Nat)} (h : GapInv l A N G) (hn : 1 ≤ n) (h1 : A ≤ u) (h2 : u + n ≤ A + N) (hf : freeK l u n = true) : ∃ s ∈ G, s.1 ≤ u ∧ u + n ≤ s.1 + s.2 := by
  rw [freeK_iff] at hf
  obtain ⟨s, hs, k1, k2⟩ := h.all u h1 (by omega) (hf u (Nat.le_refl _) (by omega))
  refine ⟨s, hs, k1, ?_⟩
  by_cases e : u + n ≤ s.1 + s.2
  · exact e
  · have := h.most s hs (by omega)
    rw [hf (s.1 + s.2) (by omega) (by omega)] at this
    cases this
theorem findG_first (l : List UInt8) (A N n : Nat) (hn : 1 ≤ n) : IsFirst l A N n (findG n (gapsK l A N)) := by
  have hi := gapInv l A N
  rcases findG_is n _ hi.rise with ⟨s, hs, h1, h2, h3⟩ | ⟨h1, h2⟩
  · have hp := hi.part s hs
    refine .inl ⟨s.1, h2, hp.1, by omega, (freeK_iff _ _ _).2 fun j k1 k2 => hi.free s hs j k1 (by omega), fun u k1 k2 => ?_⟩
    cases hf : freeK l u n with
    | false => rfl
    | true =>
      obtain ⟨t, ht, q1, q2⟩ := run_in_gap hi hn k1 (by omega) hf
      have := h3 t ht (by omega)
      omega
  · refine .inr ⟨h1, fun u k1 k2 => ?_⟩
    cases hf : freeK l u n with
    | false => rfl
    | true =>
      obtain ⟨t, ht, q1, q2⟩ := run_in_gap hi hn k1 k2 hf
      have := h2 t ht
      omega
/-- Together they are long when one of them must be. -/
theorem short_sum (n : Nat) : ∀ G : List (Nat × Nat), (∀ t ∈ G, t.2 < n) → sumLen G ≤ (n - 1) * G.length
  | [], _ => by simp [sumLen]
  | s :: G, h => by
    have ih := short_sum n G (fun t ht => h t (by simp [ht]))
    have h0 := h s (by simp)
    have e : sumLen (s :: G) = s.2 + sumLen G := by simp [sumLen]
    rw [e, List.length_cons, Nat.mul_add, Nat.mul_one]
    omega
def freeOf (m : ByteArray) (a b : Int) : Int := if (mapOk m && rangeB a b) = true then (freeN m.data.toList a.toNat (b - a).toNat : Int) else -1
def gapsOfM (m : ByteArray) (a b : Int) : List (Nat × Nat) := if (mapOk m && rangeB a b) = true then gapsK m.data.toList a.toNat (b - a).toNat else []
def findOf (m : ByteArray) (a b n : Int) : Int := if (mapOk m && rangeB a b && (decide (1 ≤ n) && decide (n ≤ 128))) = true then findG n.toNat (gapsK m.data.toList a.toNat (b - a).toNat) else -1
end Go.Proofs.Ytomlogkbndmaaaa.lb
