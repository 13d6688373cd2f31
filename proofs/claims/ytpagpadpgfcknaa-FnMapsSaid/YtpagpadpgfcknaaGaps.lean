/-
  The gaps of a map, told line by line; slices of spans that a call owns.
-/
import Derived.Test.YtpagpadpgfcknaaBits6
namespace Go.Proofs.Ytpagpadpgfcknaa.lb
open Go.RowKit
open ints

/-- Is the line ahead of the k-th one free, and one of these? -/
def inGapB (l : List UInt8) (a : Nat) : Nat → Bool
  | 0 => false
  | k + 1 => !bitAt l (a + k)
def bump (G : List (Nat × Nat)) : List (Nat × Nat) := G.set (G.length - 1) ((G.getD (G.length - 1) (0, 0)).1, (G.getD (G.length - 1) (0, 0)).2 + 1)
def gapsK (l : List UInt8) (a : Nat) : Nat → List (Nat × Nat)
  | 0 => []
  | k + 1 => if bitAt l (a + k) = true then gapsK l a k else if inGapB l a k = true then bump (gapsK l a k) else gapsK l a k ++ [(a + k, 1)]
theorem bump_length (G : List (Nat × Nat)) : (bump G).length = G.length := by simp [bump]
theorem bump_snoc (G : List (Nat × Nat)) (p q : Nat) : bump (G ++ [(p, q)]) = G ++ [(p, q + 1)] := by
  unfold bump
  simp
theorem snoc_of {G : List (Nat × Nat)} (h : 0 < G.length) : ∃ F p q, G = F ++ [(p, q)] := by
  obtain ⟨F, x, rfl⟩ : ∃ F x, G = F ++ [x] := ⟨G.dropLast, G.getLast (by intro e; simp [e] at h), (List.dropLast_concat_getLast _).symm⟩
  exact ⟨F, x.1, x.2, rfl⟩
/-- What is known of the gaps so far: how many they are, and where the last one ends. -/
theorem gapsK_known (l : List UInt8) (a k : Nat) : (gapsK l a k).length ≤ k ∧ (inGapB l a k = true → 0 < (gapsK l a k).length) ∧
    (∀ F p q, gapsK l a k = F ++ [(p, q)] → a ≤ p ∧ p + q ≤ a + k ∧ (p + q = a + k ↔ inGapB l a k = true)) := by
  induction k with
  | zero => exact ⟨Nat.le_refl _, fun h => by simp [inGapB] at h, fun F p q h => by simp [gapsK] at h⟩
  | succ k ih =>
    obtain ⟨h1, h2, h3⟩ := ih
    rw [gapsK]
    by_cases hb : bitAt l (a + k) = true
    · rw [if_pos hb]
      refine ⟨by omega, fun h => by simp [inGapB, hb] at h, fun F p q h => ?_⟩
      obtain ⟨h4, h5, h6⟩ := h3 F p q h
      refine ⟨h4, by omega, ⟨fun e => by omega, fun e => by simp [inGapB, hb] at e⟩⟩
    · have hig : inGapB l a (k + 1) = true := by
        show (!bitAt l (a + k)) = true
        cases h : bitAt l (a + k)
        · rfl
        · exact absurd h hb
      rw [if_neg hb]
      by_cases hg : inGapB l a k = true
      · rw [if_pos hg]
        obtain ⟨F0, p0, q0, e0⟩ := snoc_of (h2 hg)
        obtain ⟨h4, h5, h6⟩ := h3 F0 p0 q0 e0
        have h7 := h6.2 hg
        refine ⟨by rw [bump_length]; omega, fun _ => by rw [bump_length]; exact h2 hg, fun F p q h => ?_⟩
        rw [e0, bump_snoc] at h
        have := List.append_inj' h rfl
        simp at this
        obtain ⟨_, rfl, rfl⟩ := this
        exact ⟨h4, by omega, ⟨fun _ => hig, fun _ => by omega⟩⟩
      · rw [if_neg hg]
        refine ⟨by simp; omega, fun _ => by simp, fun F p q h => ?_⟩
        have := List.append_inj' h rfl
        simp at this
        obtain ⟨_, rfl, rfl⟩ := this
        exact ⟨by omega, by omega, ⟨fun _ => hig, fun _ => by omega⟩⟩
theorem gapsK_len (l : List UInt8) (a k : Nat) : ∀ s ∈ gapsK l a k, s.1 + s.2 ≤ a + k ∧ a ≤ s.1 := by
  induction k with
  | zero => intro s h; simp [gapsK] at h
  | succ k ih =>
    rw [gapsK]
    by_cases hb : bitAt l (a + k) = true
    · rw [if_pos hb]
      intro s hs
      have := ih s hs
      omega
    · rw [if_neg hb]
      by_cases hg : inGapB l a k = true
      · rw [if_pos hg]
        obtain ⟨F0, p0, q0, e0⟩ := snoc_of ((gapsK_known l a k).2.1 hg)
        obtain ⟨h4, h5, _⟩ := (gapsK_known l a k).2.2 F0 p0 q0 e0
        rw [e0, bump_snoc]
        rw [e0] at ih
        intro s hs
        rcases List.mem_append.1 hs with h | h
        · have := ih s (by simp [h]); omega
        · simp at h; subst h; simp; omega
      · rw [if_neg hg]
        intro s hs
        rcases List.mem_append.1 hs with h | h
        · have := ih s h; omega
        · simp at h; subst h; simp; omega
def cellsOfSpans (G : List (Nat × Nat)) : List Value := G.flatMap fun s => [.int .i64 (s.1 : Int), .int .i64 (s.2 : Int)]
theorem cellsOfSpans_snoc (G : List (Nat × Nat)) (p q : Nat) : cellsOfSpans (G ++ [(p, q)]) = cellsOfSpans G ++ [.int .i64 (p : Int), .int .i64 (q : Int)] := by simp [cellsOfSpans]
theorem cellsOfSpans_len (G : List (Nat × Nat)) : (cellsOfSpans G).length = G.length * 2 := by
  induction G with
  | nil => rfl
  | cons s G ih => simp [cellsOfSpans] at ih ⊢; omega
theorem cellsOfSpans_at (G : List (Nat × Nat)) : ∀ (i : Nat) (hi : i < G.length), (cellsOfSpans G)[i * 2]? = some (.int .i64 (G[i].1 : Int)) ∧ (cellsOfSpans G)[i * 2 + 1]? = some (.int .i64 (G[i].2 : Int)) := by
  induction G with
  | nil => intro i hi; simp at hi
  | cons s G ih =>
    intro i hi
    cases i with
    | zero => simp [cellsOfSpans]
    | succ i =>
      have := ih i (by simpa using hi)
      have e : cellsOfSpans (s :: G) = [.int .i64 (s.1 : Int), .int .i64 (s.2 : Int)] ++ cellsOfSpans G := by simp [cellsOfSpans]
      rw [e]
      refine ⟨?_, ?_⟩
      · rw [List.getElem?_append_right (by simp; omega)]
        simpa [show (i + 1) * 2 - 2 = i * 2 by omega] using this.1
      · rw [List.getElem?_append_right (by simp; omega)]
        simpa [show (i + 1) * 2 + 1 - 2 = i * 2 + 1 by omega] using this.2
theorem own_open {w : World} {base : Nat} {e : TypeId} {size : Nat} {v : Value} {n : Nat} {xs : List Value} (h : w.ownsRow base e size v n xs) (hn : 0 < n) :
    ∃ g cap, v = .slice (some ⟨g, 0, none⟩) n cap ∧ base ≤ g ∧ (∀ j (hj : j < xs.length), w.cell? ⟨g, j, none⟩ = some xs[j] ∧ w.frozen? ⟨g, j, none⟩ = false) ∧
      (∀ j x, j < xs.length → (w.setCell ⟨g, j, none⟩ x).ownsRow base e size v n (xs.set j x)) := by
  obtain ⟨hl, hh⟩ := h
  rcases hh with ⟨_, h0⟩ | ⟨g, cap, cur, rfl, hb, hg, hc, hcm, hcs, ht⟩
  · omega
  · refine ⟨g, cap, rfl, hb, fun j hj => ?_, fun j x hj => ?_⟩
    · refine ⟨?_, frozen_of_row w g j _ _ hg⟩
      rw [← List.getElem?_eq_getElem hj, cell_of_row w g j cur _ (0, 0) hg, ← ht, List.getElem?_take, if_pos (by omega)]
      simp
    · refine ⟨by simp [hl], .inr ⟨g, cap, cur.setIfInBounds j x, rfl, hb, heap_setCell_same w g j cur e x hg, hc, hcm, by simp [hcs], ?_⟩⟩
      rw [Array.toList_setIfInBounds, List.take_set, ht]
def rangeB (a b : Int) : Bool := decide (0 ≤ a) && decide (a ≤ b) && decide (b ≤ 128)
theorem rangeB_nat {a b : Int} (h : rangeB a b = true) : ∃ A N : Nat, a = (A : Int) ∧ b = ((A + N : Nat) : Int) ∧ A + N ≤ 128 := by
  unfold rangeB at h
  simp at h
  exact ⟨a.toNat, (b - a).toNat, by omega, by omega, by omega⟩
end Go.Proofs.Ytpagpadpgfcknaa.lb
