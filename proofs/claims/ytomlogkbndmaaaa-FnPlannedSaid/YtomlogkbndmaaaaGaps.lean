/-
  The gaps of a map, told line by line; slices of spans that a call owns.
-/
import Derived.Test.YtomlogkbndmaaaaBits6
namespace Go.Proofs.Ytomlogkbndmaaaa.lb
open Go.RowKit
open ints

/-- Is the line ahead of the k-th one free, and one of these? -/
def inGapB (l : List UInt8) (a : Nat) : Nat → Bool
  | 0 => false
  | k + 1 => !bitAt l (a + k)
def bump (G : List (Nat × Nat)) : List (Nat × Nat) := G.set (G.length - 1) ((G.getD (G.length - 1) (0, 0)).1, (G.getD (G.length - 1) (0, 0)).2 + 1)
def gapsK (l : List UInt8) (a : Nat) : Nat → List (Nat × Nat)
  | 0 => []
  | k + 1 => if bitAt l (a + k) = true then gapsK l a k else if inGapB l a k = true then bump (gapsK l a k) else gapsK l a k ++ [(a + k, 1)]
set_option maxRecDepth 20000 in
theorem bump_length (G : List (Nat × Nat)) : (bump G).length = G.length := by simp [bump]
set_option maxRecDepth 20000 in
theorem bump_snoc (G : List (Nat × Nat)) (p q : Nat) : bump (G ++ [(p, q)]) = G ++ [(p, q + 1)] := by
  unfold bump
  simp
set_option maxRecDepth 20000 in
theorem snoc_of {G : List (Nat × Nat)} (h : 0 < G.length) : ∃ F p q, G = F ++ [(p, q)] := by
  obtain ⟨F, x, rfl⟩ : ∃ F x, G = F ++ [x] := ⟨G.dropLast, G.getLast (by intro e; simp [e] at h), (List.dropLast_concat_getLast _).symm⟩
  exact ⟨F, x.1, x.2, rfl⟩
set_option maxRecDepth 20000 in
/-- What is known of the gaps so far: how many they are, and where the last one ends. -/
theorem gapsK_known (l : List UInt8) (a k : Nat) : (gapsK l a k).length ≤ k ∧ (inGapB l a k = true → 0 < (gapsK l a k).length) ∧
    (∀ F p q, gapsK l a k = F ++ [(p, q)] → a ≤ p ∧ p + q ≤ a + k ∧ (p + q = a + k ↔ inGapB l a k = true)) := by
  induction k with
  | zero => exact ⟨Nat.le_refl _, fun h => by simp [inGapB] at h, fun F p q h => by simp [gapsK] at h⟩
  | succ k ih =>
    obtain ⟨h1, h2, h3⟩ := ih
    rw [gapsK]
    by_cases hb : bitAt l (a + k) = true
    · rw [if_pos hb]
      refine ⟨by omega, fun h => by simp [inGapB, hb] at h, fun F p q h => ?_⟩
      obtain ⟨h4, h5, h6⟩ := h3 F p q h
      refine ⟨h4, by omega, ⟨fun e => by omega, fun e => by simp [inGapB, hb] at e⟩⟩
    · have hig : inGapB l a (k + 1) = true := by
        show (!bitAt l (a + k)) = true
        cases h : bitAt l (a + k)
        · rfl
        · exact absurd h hb
      rw [if_neg hb]
      by_cases hg : inGapB l a k = true
      · rw [if_pos hg]
        obtain ⟨F0, p0, q0, e0⟩ := snoc_of (h2 hg)
        obtain ⟨h4, h5, h6⟩ := h3 F0 p0 q0 e0
        have h7 := h6.2 hg
        refine ⟨by rw [bump_length]; omega, fun _ => by rw [bump_length]; exact h2 hg, fun F p q h => ?_⟩
        rw [e0, bump_snoc] at h
        have := List.append_inj' h rfl
        simp at this
        obtain ⟨_, rfl, rfl⟩ := this
        exact ⟨h4, by omega, ⟨fun _ => hig, fun _ => by omega⟩⟩
      · rw [if_neg hg]
        refine ⟨by simp; omega, fun _ => by simp, fun F p q h => ?_⟩
        have := List.append_inj' h rfl
        simp at this
        obtain ⟨_, rfl, rfl⟩ := this
        exact ⟨by omega, by omega, ⟨fun _ => hig, fun _ => by omega⟩⟩
set_option maxRecDepth 20000 in
theorem gapsK_len (l : List UInt8) (a k : Nat) : ∀ s ∈ gapsK l a k, s.1 + s.2 ≤ a + k ∧ a ≤ s.1 := by
  induction k with
  | zero => intro s h; simp [gapsK] at h
  | succ k ih =>
    rw [gapsK]
    by_cases hb : bitAt l (a + k) = true
    · rw [if_pos hb]
      intro s hs
      have := ih s hs
      omega
    · rw [if_neg hb]
      by_cases hg : inGapB l a k = true
      · rw [if_pos hg]
        obtain ⟨F0, p0, q0, e0⟩ := snoc_of ((gapsK_known l a k).2.1 hg)
        obtain ⟨h4, h5, _⟩ := (gapsK_known l a k).2.2 F0 p0 q0 e0
        rw [e0, bump_snoc]
        rw [e0] at ih
        intro s hs
        rcases List.mem_append.1 hs with h | h
        · have := ih s (by simp [h]); omega
        · simp at h; subst h; simp; omega
      · rw [if_neg hg]
        intro s hs
        rcases List.mem_append.1 hs with h | h
        · have := ih s h; omega
        · simp at h; subst h; simp; omega
def cellsOfSpans (G : List (Nat × Nat)) : List Value := G.flatMap fun s => [.int .i64 (s.1 : Int), .int .i64 (s.2 : Int)]
set_option maxRecDepth 20000 in
theorem cellsOfSpans_snoc (G : List (Nat × Nat)) (p q : Nat) : cellsOfSpans (G ++ [(p, q)]) = cellsOfSpans G ++ [.int .i64 (p : Int), .int .i64 (q : Int)] := by simp [cellsOfSpans]
set_option maxRecDepth 20000 in
theorem cellsOfSpans_len (G : List (Nat × Nat)) : (cellsOfSpans G).length = G.length * 2 := by
  induction G with
  | nil => rfl
  | cons s G ih => simp [cellsOfSpans] at ih ⊢; omega
set_option maxRecDepth 20000 in
theorem cellsOfSpans_at (G : List (Nat × Nat)) : ∀ (i : Nat) (hi : i < G.length), (cellsOfSpans G)[i * 2]? = some (.int .i64 (G[i].1 : Int)) ∧ (cellsOfSpans G)[i * 2 + 1]? = some (.int .i64 (G[i].2 : Int)) := by
  induction G with
  | nil => intro i hi; simp at hi
  | cons s G ih =>
    intro i hi
    cases i with
    | zero => simp [cellsOfSpans]
    | succ i =>
      have := ih i (by simpa using hi)
      have e : cellsOfSpans (s :: G) = [.int .i64 (s.1 : Int), .int .i64 (s.2 : Int)] ++ cellsOfSpans G := by simp [cellsOfSpans]
      rw [e]
      refine ⟨?_, ?_⟩
      · rw [List.getElem?_append_right (by simp; omega)]
        simpa [show (i + 1) * 2 - 2 = i * 2 by omega] using this.1
      · rw [List.getElem?_append_right (by simp; omega)]
        simpa [show (i + 1) * 2 + 1 - 2 = i * 2 + 1 by omega] using this.2
set_option maxRecDepth 20000 in
theorem own_open {w : World} {base : Nat} {e : TypeId} {size : Nat} {v : Value} {n : Nat} {xs : List Value} (h : w.ownsRow base e size v n xs) (hn : 0 < n) :
    ∃ g cap, v = .slice (some ⟨g, 0, none⟩) n cap ∧ base ≤ g ∧ (∀ j (hj : j < xs.length), w.cell? ⟨g, j, none⟩ = some xs[j] ∧ w.frozen? ⟨g, j, none⟩ = false) ∧
      (∀ j x, j < xs.length → (w.setCell ⟨g, j, none⟩ x).ownsRow base e size v n (xs.set j x)) := by
  obtain ⟨hl, hh⟩ := h
  rcases hh with ⟨_, h0⟩ | ⟨g, cap, cur, rfl, hb, hg, hc, hcm, hcs, ht⟩
  · omega
  · refine ⟨g, cap, rfl, hb, fun j hj => ?_, fun j x hj => ?_⟩
    · refine ⟨?_, frozen_of_row w g j _ _ hg⟩
      rw [← List.getElem?_eq_getElem hj, cell_of_row w g j cur _ (0, 0) hg, ← ht, List.getElem?_take, if_pos (by omega)]
      simp
    · refine ⟨by simp [hl], .inr ⟨g, cap, cur.setIfInBounds j x, rfl, hb, heap_setCell_same w g j cur e x hg, hc, hcm, by simp [hcs], ?_⟩⟩
      rw [Array.toList_setIfInBounds, List.take_set, ht]
set_option maxRecDepth 20000 in
theorem infoSpan : (Try.prog.info? 106).map (fun i => (i.zero, i.size, i.bytes)) = some (some (.agg #[.int .i64 0, .int .i64 0]), 2, 16) := by kernel_rfl
set_option maxRecDepth 20000 in
theorem own_stepS {w w1 : World} {B : Nat} {v : Value} {n : Nat} {xs : List Value} {W : World} (h : w.ownsRow B 106 2 v n xs) (hb : Below B W w) (hB : B ≤ w.heap.size) (hg : w.grownBy w1 v.ownBlock) : Below B W w1 :=
  hb.trans ⟨hg.os, hg.tape, hg.output, hg.size, fun k hk => hg.block k (by omega) (fun e => by have := (h.lt k e.symm).1; omega)⟩
set_option maxRecDepth 20000 in
/-- One span more behind a slice that the call owns. -/
theorem wpList_pushS {ops : Array Oper} {rest : List Oper} {o : Oper} {a : Act} {Q : Exit → Act → World → Prop} (X : World) (hgd : o.guard = none) (s x : Operand)
    (ho : o.op = .call { callee := .builtin .append, args := #[s, x], argTypes := #[102, 102] }) (base : Nat) (v : Value) (G : List (Nat × Nat)) (p q : Nat)
    (hown : X.ownsRow base 106 2 v G.length (cellsOfSpans G)) (hs : a.eval s = v) (hx : a.eval x = .slice (some ⟨X.heap.size, 0, none⟩) 1 1) (hn : G.length ≤ 1048576) (hbase : base ≤ X.heap.size)
    (h : ∀ g cap w', w'.ownsRow base 106 2 (.slice (some ⟨g, 0, none⟩) (G.length + 1) cap) (G ++ [(p, q)]).length (cellsOfSpans (G ++ [(p, q)])) → Below base X w' → base ≤ w'.heap.size → wpList Try.prog ops Q rest (a.put o.dst (.slice (some ⟨g, 0, none⟩) (G.length + 1) cap)) w') :
    wpList Try.prog ops Q (o :: rest) a (X.alloc (.cells #[.int .i64 (p : Int), .int .i64 (q : Int)] 106)) := by
  obtain ⟨i0, hi, hzz⟩ := Option.map_eq_some_iff.1 infoSpan
  simp only [Prod.mk.injEq] at hzz
  obtain ⟨hz0, hz1, hz2⟩ := hzz
  refine wpList_append_lies _ hgd s x 102 ho base 106 i0 (.agg #[.int .i64 0, .int .i64 0]) 2 16 Try.underlying102 hi hz0 hz1 hz2 rfl (by decide) v G.length _ hs (hown.alloc _) ⟨X.heap.size, 0, none⟩ 1 1 [.int .i64 (p : Int), .int .i64 (q : Int)] hx rfl ?_ ?_ (by decide) ?_ ?_ ?_ _ rfl ?_
  · intro j u hj
    match j, hj with
    | 0, hj => simp at hj; subst hj; rw [show (⟨X.heap.size, 0, none⟩ : Addr).add 0 = ⟨X.heap.size, 0, none⟩ from rfl, World.cell?_alloc_new]; rfl
    | 1, hj => simp at hj; subst hj; rw [show (⟨X.heap.size, 0, none⟩ : Addr).add 1 = ⟨X.heap.size, 1, none⟩ from rfl, World.cell?_alloc_new]; rfl
  · intro u hu; simp at hu; rcases hu with rfl | rfl <;> rfl
  · unfold maxLen; omega
  · omega
  · simp; omega
  · intro g cap w' hown' hgrow hat hlt
    have hb : Below base X w' := own_stepS (hown.alloc _) ((Below.refl _ _).alloc hbase _) (by simp; omega) hgrow
    exact h g cap w' (by rw [cellsOfSpans_snoc]; simpa using hown') hb (Nat.le_trans hbase hb.size)
/-- Spans that can be read. -/
def Spans (w : World) (v : Value) (G : List (Nat × Nat)) : Prop :=
  ∃ a cap, v = .slice a G.length cap ∧ ∀ i (hi : i < G.length), ∃ b : Nat, a = some ⟨b, 0, none⟩ ∧ w.cell? ⟨b, i * 2, none⟩ = some (.int .i64 (G[i].1 : Int)) ∧ w.cell? ⟨b, i * 2 + 1, none⟩ = some (.int .i64 (G[i].2 : Int))
set_option maxRecDepth 20000 in
theorem spans_of_row {w : World} {base : Nat} {v : Value} {G : List (Nat × Nat)} (h : w.ownsRow base 106 2 v G.length (cellsOfSpans G)) : Spans w v G := by
  by_cases h0 : 0 < G.length
  · obtain ⟨g, cap, rfl, _, hc, _⟩ := own_open h h0
    refine ⟨_, _, rfl, fun i hi => ⟨g, rfl, ?_, ?_⟩⟩
    · have e := (cellsOfSpans_at G i hi).1
      have hl := cellsOfSpans_len G
      rw [List.getElem?_eq_getElem (by omega)] at e
      rw [(hc (i * 2) (by omega)).1]; exact e
    · have e := (cellsOfSpans_at G i hi).2
      have hl := cellsOfSpans_len G
      rw [List.getElem?_eq_getElem (by omega)] at e
      rw [(hc (i * 2 + 1) (by omega)).1]; exact e
  · rcases h.2 with ⟨rfl, h1⟩ | ⟨g, cap, cur, rfl, _⟩
    · exact ⟨none, 0, by rw [h1], fun i hi => by omega⟩
    · exact ⟨_, _, rfl, fun i hi => by omega⟩
set_option maxRecDepth 20000 in
theorem Spans.below {w w' : World} {v : Value} {G : List (Nat × Nat)} (h : Spans w v G) (hb : Below w.heap.size w w') : Spans w' v G := by
  obtain ⟨a, cap, rfl, hc⟩ := h
  refine ⟨a, cap, rfl, fun i hi => ?_⟩
  obtain ⟨b, rfl, h0, h1⟩ := hc i hi
  exact ⟨b, rfl, by rw [hb.cell (p := ⟨b, i * 2, none⟩) (World.block_lt_of_cell? w _ h0)]; exact h0, by rw [hb.cell (p := ⟨b, i * 2 + 1, none⟩) (World.block_lt_of_cell? w _ h1)]; exact h1⟩
set_option maxRecDepth 20000 in
theorem set_bump (G : List (Nat × Nat)) (h : 0 < G.length) : (cellsOfSpans G).set ((G.length - 1) * 2 + 1) (.int .i64 (((G.getD (G.length - 1) (0, 0)).2 + 1 : Nat) : Int)) = cellsOfSpans (bump G) := by
  obtain ⟨F, p, q, rfl⟩ := snoc_of h
  rw [bump_snoc, cellsOfSpans_snoc, cellsOfSpans_snoc]
  have hl := cellsOfSpans_len F
  rw [List.set_append_right _ _ (by simp; omega)]
  congr 1
  have : ((F ++ [(p, q)]).length - 1) * 2 + 1 - (cellsOfSpans F).length = 1 := by simp; omega
  rw [this]
  simp
set_option maxRecDepth 20000 in
/-- The last span, and what it is when one is added to its length. -/
theorem last_span {w : World} {base g cap : Nat} {R : List (Nat × Nat)} {p q : Nat} (h : w.ownsRow base 106 2 (.slice (some ⟨g, 0, none⟩) (R.length + 1) cap) (R ++ [(p, q)]).length (cellsOfSpans (R ++ [(p, q)]))) :
    base ≤ g ∧ w.cell? ⟨g, R.length * 2, none⟩ = some (.int .i64 (p : Int)) ∧ w.cell? ⟨g, R.length * 2 + 1, none⟩ = some (.int .i64 (q : Int)) ∧ w.frozen? ⟨g, R.length * 2 + 1, none⟩ = false ∧
      (w.setCell ⟨g, R.length * 2 + 1, none⟩ (.int .i64 ((q + 1 : Nat) : Int))).ownsRow base 106 2 (.slice (some ⟨g, 0, none⟩) (R.length + 1) cap) (R ++ [(p, q + 1)]).length (cellsOfSpans (R ++ [(p, q + 1)])) := by
  obtain ⟨g', cap', e, hb, hc, hs⟩ := own_open h (by simp)
  injection e with e1 e2 e3
  injection e1 with e1
  injection e1 with e1
  subst e1
  have hl := cellsOfSpans_len (R ++ [(p, q)])
  simp only [List.length_append, List.length_cons, List.length_nil] at hl
  obtain ⟨x0, x1⟩ := cellsOfSpans_at (R ++ [(p, q)]) R.length (by simp)
  have hm := set_bump (R ++ [(p, q)]) (by simp)
  rw [bump_snoc] at hm
  have ee : ((R ++ [(p, q)]).length - 1) * 2 + 1 = R.length * 2 + 1 := by simp
  rw [ee] at hm
  simp at x0 x1 hm
  refine ⟨hb, ?_, ?_, (hc _ (by omega)).2, ?_⟩
  · rw [(hc _ (by omega)).1, ← List.getElem?_eq_getElem (by omega)]; simpa using x0
  · rw [(hc _ (by omega)).1, ← List.getElem?_eq_getElem (by omega)]; simpa using x1
  · have := hs (R.length * 2 + 1) (.int .i64 ((q + 1 : Nat) : Int)) (by omega)
    simp only [List.length_append, List.length_cons, List.length_nil] at this ⊢
    rw [← hm]
    simpa using this
def rangeB (a b : Int) : Bool := decide (0 ≤ a) && decide (a ≤ b) && decide (b ≤ 128)
set_option maxRecDepth 20000 in
theorem rangeB_nat {a b : Int} (h : rangeB a b = true) : ∃ A N : Nat, a = (A : Int) ∧ b = ((A + N : Nat) : Int) ∧ A + N ≤ 128 := by
  unfold rangeB at h
  simp at h
  exact ⟨a.toNat, (b - a).toNat, by omega, by omega, by omega⟩
end Go.Proofs.Ytomlogkbndmaaaa.lb
