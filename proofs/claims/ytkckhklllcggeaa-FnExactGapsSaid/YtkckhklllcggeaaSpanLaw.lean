/-
  Slices of spans held against each other, marked, and their marks found again.
-/
import Derived.Test.YtkckhklllcggeaaGaps4
namespace Go.Proofs.Ytkckhklllcggeaa.lb
open Go.RowKit
open ints

def flatG (G : List (Nat × Nat)) : List Int := G.flatMap fun s => [(s.1 : Int), (s.2 : Int)]
theorem flatG_cells (G : List (Nat × Nat)) : cellsOfSpans G = (flatG G).map (Value.int .i64) := by
  unfold cellsOfSpans flatG
  rw [List.map_flatMap]
  rfl
theorem flatG_len (G : List (Nat × Nat)) : (flatG G).length = G.length * 2 := by
  have := cellsOfSpans_len G
  rw [flatG_cells, List.length_map] at this
  exact this
theorem flat_of_row {w : World} {base : Nat} {v : Value} {G : List (Nat × Nat)} (h : w.ownsRow base 41 2 v G.length (cellsOfSpans G)) : ∃ a g cap, v = .slice a G.length cap ∧ base ≤ g ∧ Ints w a g (flatG G) := by
  have hl := flatG_len G
  by_cases h0 : 0 < G.length
  · obtain ⟨g, cap, rfl, hb, hc, _⟩ := own_open h h0
    refine ⟨_, g, cap, rfl, hb, fun i hi => ⟨rfl, ?_, ?_⟩⟩
    · have hj : i < (cellsOfSpans G).length := by rw [flatG_cells, List.length_map]; exact hi
      rw [(hc i hj).1, ← List.getElem?_eq_getElem hj, flatG_cells, List.getElem?_map, List.getElem?_eq_getElem hi]
      rfl
    · have hj : i < (cellsOfSpans G).length := by rw [flatG_cells, List.length_map]; exact hi
      exact (hc i hj).2
  · rcases h.2 with ⟨rfl, h1⟩ | ⟨g, cap, cur, rfl, hb, _⟩
    · exact ⟨none, base, 0, by rw [h1], Nat.le_refl _, fun i hi => by omega⟩
    · exact ⟨_, g, _, rfl, hb, fun i hi => by omega⟩
theorem eqSpan_same (w : World) (x y : Int) :
    Calls Try.prog 65 #[.agg #[.int .i64 x, .int .i64 y], .agg #[.int .i64 x, .int .i64 y]] w fun e w' => e = .returned (.bool true) ∧ Below w.heap.size w w' := by
  have h1 : (x != x) = false := by simp
  have h2 : (y != y) = false := by simp
  go_enter Try.func65, Try.ntmps65
  go_wp2
  go_ret
  exact ⟨rfl, by go_grown⟩
set_option maxHeartbeats 1000000 in
theorem eqSpanS_same (w : World) (a b : Option Addr) (g h ca cb n : Nat) (xs : List Int) (hxs : xs.length = n * 2) (hn : n ≤ 1048576) (ha : Ints w a g xs) (hb : Ints w b h xs) :
    Calls Try.prog 37 #[.slice a n ca, .slice b n cb] w fun e w' => e = .returned (.bool true) ∧ Below w.heap.size w w' := by
  have HA : Hid (Ints w a g xs) := ha
  have HBb : Hid (Ints w b h xs) := hb
  have HXS : Hid (xs.length = n * 2) := hxs
  clear ha hb hxs
  have hne : ((n : Int) != (n : Int)) = false := by simp
  go_enter Try.func37, Try.ntmps37
  go_wp2
  go_loopw [5] (fun i wr => ∃ k : Nat, k ≤ n ∧ i = .int .i64 k ∧ Below w.heap.size w wr) (fun i _ => n - (intOf i).toNat)
  case atStart => exact ⟨0, Nat.zero_le _, rfl, Below.refl _ _⟩
  case round =>
    obtain ⟨k, hk, rfl, hb⟩ := hrel
    have HB : Hid (Below w.heap.size w wr) := hb
    clear hb
    by_cases hlt : k < n
    · have hi0 : k * 2 < xs.length := by have := HXS.out; omega
      have hi1 : k * 2 + 1 < xs.length := by have := HXS.out; omega
      obtain ⟨rfl, c0, _⟩ := HA.out.below HB.out (k * 2) hi0
      obtain ⟨_, c1, _⟩ := HA.out.below HB.out (k * 2 + 1) hi1
      obtain ⟨rfl, d0, _⟩ := HBb.out.below HB.out (k * 2) hi0
      obtain ⟨_, d1, _⟩ := HBb.out.below HB.out (k * 2 + 1) hi1
      generalize xs[k * 2] = x at c0 d0
      generalize xs[k * 2 + 1] = y at c1 d1
      have hlt' : (k : Int) < (n : Int) := by omega
      have HE : Hid (∀ w, _) := fun w => eqSpan_same w x y
      have HD : Hid (∀ w', Below wr.drew.heap.size wr.drew w' → Below w.heap.size w w') := fun w' h => HB.out.trans ⟨h.os, h.tape, h.output, Nat.le_trans (Nat.le_refl _) h.size, fun i hi => h.block i (Nat.lt_of_lt_of_le hi HB.out.size)⟩
      have HCS : Hid (∀ w', Below wr.heap.size wr w' → w'.cell? ⟨g, k * 2, none⟩ = some (.int .i64 x) ∧ w'.cell? ⟨g, k * 2 + 1, none⟩ = some (.int .i64 y) ∧ w'.cell? ⟨h, k * 2, none⟩ = some (.int .i64 x) ∧ w'.cell? ⟨h, k * 2 + 1, none⟩ = some (.int .i64 y)) := fun w' hb' =>
        ⟨by rw [hb'.cell (p := ⟨g, k * 2, none⟩) (World.block_lt_of_cell? wr _ c0)]; exact c0, by rw [hb'.cell (p := ⟨g, k * 2 + 1, none⟩) (World.block_lt_of_cell? wr _ c1)]; exact c1, by rw [hb'.cell (p := ⟨h, k * 2, none⟩) (World.block_lt_of_cell? wr _ d0)]; exact d0, by rw [hb'.cell (p := ⟨h, k * 2 + 1, none⟩) (World.block_lt_of_cell? wr _ d1)]; exact d1⟩
      have HBd : Hid (Below wr.heap.size wr wr.drew) := (Below.refl _ _).drew
      go_wp2
      go_region_held3 (fun w' => w'.cell? ⟨g, k * 2, none⟩ = some (.int .i64 x) ∧ w'.cell? ⟨g, k * 2 + 1, none⟩ = some (.int .i64 y) ∧ w'.cell? ⟨h, k * 2, none⟩ = some (.int .i64 x) ∧ w'.cell? ⟨h, k * 2 + 1, none⟩ = some (.int .i64 y))
        (first | exact HCS.out _ HBd.out | exact HCS.out _ h5)
        (first | (go_at_call 65; refine (HE.out _).mono ?_; rintro e w5 ⟨rfl, hb5⟩; have h5 : Below wr.heap.size wr w5 := ⟨hb5.os, hb5.tape, hb5.output, hb5.size, hb5.block⟩))
      all_goals
        have HB5 : Hid (Below w.heap.size w w5) := HB.out.trans (h5.mono HB.out.size)
        clear h5 hb5
        go_wp2
        go_roundw
        case rel => exact ⟨k + 1, by omega, by go_num, HB5.out⟩
        case measure => simp [intOf]; omega
    · go_wp2
      go_ret
      exact ⟨rfl, HB.out⟩
set_option maxHeartbeats 1000000 in
theorem markSpanS_any (w : World) (a : Option Addr) (g n cap : Nat) (xs : List Int) (k : Nat) (hxs : xs.length = n * 2) (ha : Ints w a g xs) (hn : n ≤ 1048576) (hk1 : k ≤ 4194304) :
    Calls Try.prog 38 #[.slice a n cap, .int .i64 (k : Int)] w fun e w' => e = .returned (.int .i64 ((k + n * 2 : Nat) : Int)) ∧ w.grownBy w' (some g) ∧ Ints w' a g (marks k (n * 2)) := by
  have HA : Hid (∀ i, i < n * 2 → a = some ⟨g, 0, none⟩ ∧ (∃ v, w.cell? ⟨g, i, none⟩ = some v) ∧ w.frozen? ⟨g, i, none⟩ = false) := fun i hi => by
    obtain ⟨e, h0, h1⟩ := ha i (by omega)
    exact ⟨e, ⟨_, h0⟩, h1⟩
  clear ha hxs
  go_enter Try.func38, Try.ntmps38
  go_wp2
  go_loopw [1, 5] (fun m i wr => ∃ j : Nat, j ≤ n ∧ i = .int .i64 j ∧ m = .int .i64 ((k + j * 2 : Nat) : Int) ∧ w.grownBy wr (some g) ∧ ∀ i, i < n * 2 → a = some ⟨g, 0, none⟩ ∧ (∃ v, wr.cell? ⟨g, i, none⟩ = some v ∧ (i < j * 2 → v = .int .i64 ((k + i : Nat) : Int))) ∧ wr.frozen? ⟨g, i, none⟩ = false) (fun _ i _ => n - (intOf i).toNat)
  case atStart => exact ⟨0, Nat.zero_le _, rfl, rfl, grown_refl _ _, fun i hi => ⟨(HA.out i hi).1, ⟨_, (HA.out i hi).2.1.choose_spec, fun h => by omega⟩, (HA.out i hi).2.2⟩⟩
  case round =>
    obtain ⟨j, hj, rfl, rfl, hgr, hat⟩ := hrel
    have HG : Hid (w.grownBy wr (some g)) := hgr
    have HT : Hid (∀ i, i < n * 2 → a = some ⟨g, 0, none⟩ ∧ (∃ v, wr.cell? ⟨g, i, none⟩ = some v ∧ (i < j * 2 → v = .int .i64 ((k + i : Nat) : Int))) ∧ wr.frozen? ⟨g, i, none⟩ = false) := hat
    clear hgr hat
    by_cases hlt : j < n
    · obtain ⟨rfl, ⟨v0, d0, _⟩, f0⟩ := HT.out (j * 2) (by omega)
      obtain ⟨_, ⟨v1, d1, _⟩, f1⟩ := HT.out (j * 2 + 1) (by omega)
      obtain ⟨km, hkm⟩ : ∃ km : Nat, km = k + j * 2 := ⟨_, rfl⟩
      rw [← hkm]
      have hkb : km ≤ 8388608 := by omega
      have HKM : Hid (km = k + j * 2) := hkm
      have hlt' : (j : Int) < (n : Int) := by omega
      clear hkm
      go_wp2
      go_roundw
      case rel =>
        refine ⟨j + 1, by omega, by go_num, by have := HKM.out; go_num, grown_trans HG.out (grown_trans (grown_set _ _ _ _) (grown_set _ _ _ _)), fun i hi => ⟨trivial, ?_, by rw [World.frozen?_setCell, World.frozen?_setCell]; exact (HT.out i hi).2.2⟩⟩
        by_cases e1 : i = j * 2 + 1
        · subst e1
          exact ⟨_, World.cell?_setCell_same _ _ _ (by rw [World.cell?_setCell_other _ _ _ _ (fun q => by have := congrArg Addr.off q; simp at this)]; exact d1), fun _ => by have := HKM.out; go_num⟩
        · by_cases e0 : i = j * 2
          · subst e0
            exact ⟨_, by rw [World.cell?_setCell_other _ _ _ _ (fun q => by have := congrArg Addr.off q; simp at this)]; exact World.cell?_setCell_same _ _ _ d0, fun _ => by have := HKM.out; go_num⟩
          · obtain ⟨_, ⟨v, hv, hvi⟩, _⟩ := HT.out i hi
            exact ⟨v, by rw [World.cell?_setCell_other _ _ _ _ (fun q => e1 (congrArg Addr.off q).symm), World.cell?_setCell_other _ _ _ _ (fun q => e0 (congrArg Addr.off q).symm)]; exact hv, fun h => hvi (by omega)⟩
      case measure => simp [intOf]; omega
    · have : j = n := by omega
      subst this
      go_wp2
      go_ret
      refine ⟨rfl, HG.out, fun i hi => ?_⟩
      have hi' : i < j * 2 := by rw [marks_len] at hi; exact hi
      obtain ⟨e, ⟨v, hv, hvi⟩, hf⟩ := HT.out i hi'
      rw [marks_at]
      exact ⟨e, by rw [hv, hvi hi'], hf⟩
set_option maxHeartbeats 1000000 in
theorem heldSpanS_any (w : World) (a : Option Addr) (g n cap : Nat) (k : Nat) (ha : Ints w a g (marks k (n * 2))) (hn : n ≤ 1048576) (hk1 : k ≤ 4194304) :
    Calls Try.prog 39 #[.slice a n cap, .int .i64 (k : Int)] w fun e w' => e = .returned (.int .i64 ((k + n * 2 : Nat) : Int)) ∧ w = w' := by
  have HA : Hid (∀ i, i < n * 2 → a = some ⟨g, 0, none⟩ ∧ w.cell? ⟨g, i, none⟩ = some (.int .i64 ((k + i : Nat) : Int))) := fun i hi => by
    obtain ⟨e, h0, _⟩ := ha i (by rw [marks_len]; exact hi)
    rw [marks_at] at h0
    exact ⟨e, h0⟩
  clear ha
  go_enter Try.func39, Try.ntmps39
  go_wp2
  go_loop [1, 5] (fun m i => ∃ j : Nat, j ≤ n ∧ i = .int .i64 j ∧ m = .int .i64 ((k + j * 2 : Nat) : Int)) (fun _ i => n - (intOf i).toNat)
  case atStart => exact ⟨0, Nat.zero_le _, rfl, rfl⟩
  case round =>
    obtain ⟨j, hj, rfl, rfl⟩ := hrel
    by_cases hlt : j < n
    · obtain ⟨rfl, c0⟩ := HA.out (j * 2) (by omega)
      obtain ⟨_, c1⟩ := HA.out (j * 2 + 1) (by omega)
      obtain ⟨km, hkm⟩ : ∃ km : Nat, km = k + j * 2 := ⟨_, rfl⟩
      rw [← hkm] at c0 ⊢
      rw [show k + (j * 2 + 1) = km + 1 by omega] at c1
      have hkb : km ≤ 8388608 := by omega
      have HKM : Hid (km = k + j * 2) := hkm
      have hlt' : (j : Int) < (n : Int) := by omega
      have e0 : ((km : Int) != (km : Int)) = false := by simp
      have e1 : (((km + 1 : Nat) : Int) != (km : Int) + 1) = false := by simp
      clear hkm
      go_wp2
      refine ⟨⟨j + 1, by omega, by go_num, by have := HKM.out; go_num⟩, by simp [intOf]; omega⟩
    · have : j = n := by omega
      subst this
      go_wp2
      go_ret
      exact ⟨rfl, rfl⟩
end Go.Proofs.Ytkckhklllcggeaa.lb
