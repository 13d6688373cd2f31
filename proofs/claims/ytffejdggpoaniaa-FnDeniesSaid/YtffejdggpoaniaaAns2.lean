/-
  Slices of answers: copied, held against each other, marked.
-/
import Derived.Test.YtffejdggpoaniaaAns
import Derived.Laws.MakeOwn
import Derived.Deep.RegionWith
import Derived.Deep.RegionHeld3
namespace Go.Proofs.Ytffejdggpoaniaa.ans
open Go.RowKit
open ints inr

theorem eqAnswer_same (w : World) (x y : Int) :
    Calls Try.prog 20 #[.agg #[.int .i64 x, .int .i64 y], .agg #[.int .i64 x, .int .i64 y]] w fun e w' => e = .returned (.bool true) ∧ Below w.heap.size w w' := by
  have h1 : (x != x) = false := by simp
  have h2 : (y != y) = false := by simp
  go_enter Try.func20, Try.ntmps20
  go_wp2
  go_ret
  exact ⟨rfl, by go_grown⟩
set_option maxHeartbeats 1000000 in
theorem eqAnswerS_same (w : World) (a b : Option Addr) (g h ca cb n : Nat) (xs : List Int) (hxs : xs.length = n * 2) (hn : n ≤ 1048576) (ha : Ints w a g xs) (hb : Ints w b h xs) :
    Calls Try.prog 10 #[.slice a n ca, .slice b n cb] w fun e w' => e = .returned (.bool true) ∧ Below w.heap.size w w' := by
  have HA : Hid (Ints w a g xs) := ha
  have HBb : Hid (Ints w b h xs) := hb
  have HXS : Hid (xs.length = n * 2) := hxs
  clear ha hb hxs
  have hne : ((n : Int) != (n : Int)) = false := by simp
  go_enter Try.func10, Try.ntmps10
  go_wp2
  go_loopw [5] (fun i wr => ∃ k : Nat, k ≤ n ∧ i = .int .i64 k ∧ Below w.heap.size w wr) (fun i _ => n - (intOf i).toNat)
  case atStart => exact ⟨0, Nat.zero_le _, rfl, Below.refl _ _⟩
  case round =>
    obtain ⟨k, hk, rfl, hb⟩ := hrel
    have HB : Hid (Below w.heap.size w wr) := hb
    clear hb
    by_cases hlt : k < n
    · have hi0 : k * 2 < xs.length := by have := HXS.out; omega
      have hi1 : k * 2 + 1 < xs.length := by have := HXS.out; omega
      obtain ⟨rfl, c0, _⟩ := HA.out.below HB.out (k * 2) hi0
      obtain ⟨_, c1, _⟩ := HA.out.below HB.out (k * 2 + 1) hi1
      obtain ⟨rfl, d0, _⟩ := HBb.out.below HB.out (k * 2) hi0
      obtain ⟨_, d1, _⟩ := HBb.out.below HB.out (k * 2 + 1) hi1
      generalize xs[k * 2] = x at c0 d0
      generalize xs[k * 2 + 1] = y at c1 d1
      have hlt' : (k : Int) < (n : Int) := by omega
      have HE : Hid (∀ w, _) := fun w => eqAnswer_same w x y
      have HD : Hid (∀ w', Below wr.drew.heap.size wr.drew w' → Below w.heap.size w w') := fun w' h => HB.out.trans ⟨h.os, h.tape, h.output, Nat.le_trans (Nat.le_refl _) h.size, fun i hi => h.block i (Nat.lt_of_lt_of_le hi HB.out.size)⟩
      have HCS : Hid (∀ w', Below wr.heap.size wr w' → w'.cell? ⟨g, k * 2, none⟩ = some (.int .i64 x) ∧ w'.cell? ⟨g, k * 2 + 1, none⟩ = some (.int .i64 y) ∧ w'.cell? ⟨h, k * 2, none⟩ = some (.int .i64 x) ∧ w'.cell? ⟨h, k * 2 + 1, none⟩ = some (.int .i64 y)) := fun w' hb' =>
        ⟨by rw [hb'.cell (p := ⟨g, k * 2, none⟩) (World.block_lt_of_cell? wr _ c0)]; exact c0, by rw [hb'.cell (p := ⟨g, k * 2 + 1, none⟩) (World.block_lt_of_cell? wr _ c1)]; exact c1, by rw [hb'.cell (p := ⟨h, k * 2, none⟩) (World.block_lt_of_cell? wr _ d0)]; exact d0, by rw [hb'.cell (p := ⟨h, k * 2 + 1, none⟩) (World.block_lt_of_cell? wr _ d1)]; exact d1⟩
      have HBd : Hid (Below wr.heap.size wr wr.drew) := (Below.refl _ _).drew
      go_wp2
      go_region_held3 (fun w' => w'.cell? ⟨g, k * 2, none⟩ = some (.int .i64 x) ∧ w'.cell? ⟨g, k * 2 + 1, none⟩ = some (.int .i64 y) ∧ w'.cell? ⟨h, k * 2, none⟩ = some (.int .i64 x) ∧ w'.cell? ⟨h, k * 2 + 1, none⟩ = some (.int .i64 y))
        (first | exact HCS.out _ HBd.out | exact HCS.out _ h5)
        (first | (go_at_call 20; refine (HE.out _).mono ?_; rintro e w5 ⟨rfl, hb5⟩; have h5 : Below wr.heap.size wr w5 := ⟨hb5.os, hb5.tape, hb5.output, hb5.size, hb5.block⟩))
      all_goals
        have HB5 : Hid (Below w.heap.size w w5) := HB.out.trans (h5.mono HB.out.size)
        clear h5 hb5
        go_wp2
        go_roundw
        case rel => exact ⟨k + 1, by omega, by go_num, HB5.out⟩
        case measure => simp [intOf]; omega
    · go_wp2
      go_ret
      exact ⟨rfl, HB.out⟩
set_option maxHeartbeats 1000000 in
theorem markAnswerS_any (w : World) (a : Option Addr) (g n cap : Nat) (xs : List Int) (k : Nat) (hxs : xs.length = n * 2) (ha : Ints w a g xs) (hn : n ≤ 1048576) (hk1 : k ≤ 4194304) :
    Calls Try.prog 11 #[.slice a n cap, .int .i64 (k : Int)] w fun e w' => e = .returned (.int .i64 ((k + n * 2 : Nat) : Int)) ∧ w.grownBy w' (some g) ∧ Ints w' a g (marks k (n * 2)) := by
  have HA : Hid (∀ i, i < n * 2 → a = some ⟨g, 0, none⟩ ∧ (∃ v, w.cell? ⟨g, i, none⟩ = some v) ∧ w.frozen? ⟨g, i, none⟩ = false) := fun i hi => by
    obtain ⟨e, h0, h1⟩ := ha i (by omega)
    exact ⟨e, ⟨_, h0⟩, h1⟩
  clear ha hxs
  go_enter Try.func11, Try.ntmps11
  go_wp2
  go_loopw [1, 5] (fun m i wr => ∃ j : Nat, j ≤ n ∧ i = .int .i64 j ∧ m = .int .i64 ((k + j * 2 : Nat) : Int) ∧ w.grownBy wr (some g) ∧ ∀ i, i < n * 2 → a = some ⟨g, 0, none⟩ ∧ (∃ v, wr.cell? ⟨g, i, none⟩ = some v ∧ (i < j * 2 → v = .int .i64 ((k + i : Nat) : Int))) ∧ wr.frozen? ⟨g, i, none⟩ = false) (fun _ i _ => n - (intOf i).toNat)
  case atStart => exact ⟨0, Nat.zero_le _, rfl, rfl, grown_refl _ _, fun i hi => ⟨(HA.out i hi).1, ⟨_, (HA.out i hi).2.1.choose_spec, fun h => by omega⟩, (HA.out i hi).2.2⟩⟩
  case round =>
    obtain ⟨j, hj, rfl, rfl, hgr, hat⟩ := hrel
    have HG : Hid (w.grownBy wr (some g)) := hgr
    have HT : Hid (∀ i, i < n * 2 → a = some ⟨g, 0, none⟩ ∧ (∃ v, wr.cell? ⟨g, i, none⟩ = some v ∧ (i < j * 2 → v = .int .i64 ((k + i : Nat) : Int))) ∧ wr.frozen? ⟨g, i, none⟩ = false) := hat
    clear hgr hat
    by_cases hlt : j < n
    · obtain ⟨rfl, ⟨v0, d0, _⟩, f0⟩ := HT.out (j * 2) (by omega)
      obtain ⟨_, ⟨v1, d1, _⟩, f1⟩ := HT.out (j * 2 + 1) (by omega)
      obtain ⟨km, hkm⟩ : ∃ km : Nat, km = k + j * 2 := ⟨_, rfl⟩
      rw [← hkm]
      have hkb : km ≤ 8388608 := by omega
      have HKM : Hid (km = k + j * 2) := hkm
      have hlt' : (j : Int) < (n : Int) := by omega
      clear hkm
      go_wp2
      go_roundw
      case rel =>
        refine ⟨j + 1, by omega, by go_num, by have := HKM.out; go_num, grown_trans HG.out (grown_trans (grown_set _ _ _ _) (grown_set _ _ _ _)), fun i hi => ⟨trivial, ?_, by rw [World.frozen?_setCell, World.frozen?_setCell]; exact (HT.out i hi).2.2⟩⟩
        by_cases e1 : i = j * 2 + 1
        · subst e1
          exact ⟨_, World.cell?_setCell_same _ _ _ (by rw [World.cell?_setCell_other _ _ _ _ (fun q => by have := congrArg Addr.off q; simp at this)]; exact d1), fun _ => by have := HKM.out; go_num⟩
        · by_cases e0 : i = j * 2
          · subst e0
            exact ⟨_, by rw [World.cell?_setCell_other _ _ _ _ (fun q => by have := congrArg Addr.off q; simp at this)]; exact World.cell?_setCell_same _ _ _ d0, fun _ => by have := HKM.out; go_num⟩
          · obtain ⟨_, ⟨v, hv, hvi⟩, _⟩ := HT.out i hi
            exact ⟨v, by rw [World.cell?_setCell_other _ _ _ _ (fun q => e1 (congrArg Addr.off q).symm), World.cell?_setCell_other _ _ _ _ (fun q => e0 (congrArg Addr.off q).symm)]; exact hv, fun h => hvi (by omega)⟩
      case measure => simp [intOf]; omega
    · have : j = n := by omega
      subst this
      go_wp2
      go_ret
      refine ⟨rfl, HG.out, fun i hi => ?_⟩
      have hi' : i < j * 2 := by rw [marks_len] at hi; exact hi
      obtain ⟨e, ⟨v, hv, hvi⟩, hf⟩ := HT.out i hi'
      rw [marks_at]
      exact ⟨e, by rw [hv, hvi hi'], hf⟩
theorem toAnswer_any (w : World) (x y : Int) :
    Calls Try.prog 17 #[.agg #[.int .i64 x, .int .i64 y]] w fun e w' => e = .returned (.agg #[.int .i64 x, .int .i64 y]) ∧ Below w.heap.size w w' := by
  go_enter Try.func17, Try.ntmps17
  go_wp2
  go_returns
  exact ⟨rfl, by go_grown⟩
theorem infoAnswer : (Try.prog.info? 37).map (fun i => (i.zero, i.size, i.bytes)) = some (some (.agg #[.int .i64 0, .int .i64 0]), 2, 16) := by kernel_rfl
def madeAns (w : World) (n : Nat) : World := w.alloc (.cells (madeCells #[.int .i64 0, .int .i64 0] (n * 2)) 37)
theorem run_ans (n : Nat) (h : n ≤ 1048576) (w : World) : (Instr.makeSlice 26 (.int .i64 (n : Int)) (.int .i64 (n : Int))).run Try.prog w = .ok (.slice (some ⟨w.heap.size, 0, none⟩) n n) (madeAns w n) := by
  obtain ⟨i, hi, hzz⟩ := Option.map_eq_some_iff.1 infoAnswer
  simp only [Prod.mk.injEq] at hzz
  obtain ⟨hz, hs, hb⟩ := hzz
  have hr := run_make (P := Try.prog) w 26 37 i _ Try.underlying26 hi hz .i64 .i64 n n (by omega) (Int.le_refl _) (by rw [hb]; omega) (by omega)
  simp only [Int.toNat_natCast, hs] at hr
  exact hr
theorem madeAns_below (w : World) (n : Nat) : Below w.heap.size w (madeAns w n) := (Below.refl _ _).alloc (Nat.le_refl _) _
theorem madeAns_size (w : World) (n : Nat) : (madeAns w n).heap.size = w.heap.size + 1 := by unfold madeAns; simp
theorem madeAns_row (w : World) (n : Nat) : Room (madeAns w n) w.heap.size (n * 2) := fun j hj => by
  unfold madeAns
  refine ⟨?_, World.frozen?_alloc_new _ _ _ _⟩
  rw [World.cell?_alloc_new]
  exact ⟨_, Array.getElem?_eq_getElem (by rw [size_madeCells]; exact hj)⟩
set_option maxHeartbeats 1000000 in
theorem toAnswerS_any (w : World) (a : Option Addr) (cap n : Nat) (xs : List Int) (hx : xs.length = n * 2) (hn : n ≤ 1048576) (hl : Nums w a xs) :
    Calls Try.prog 7 #[.slice a n cap] w fun e w' => ∃ g : Nat, e = .returned (.slice (some ⟨g, 0, none⟩) n n) ∧ w.heap.size ≤ g ∧ g < w'.heap.size ∧ Ints w' (some ⟨g, 0, none⟩) g xs ∧ Below w.heap.size w w' := by
  have HX : Hid (xs.length = n * 2) := hx
  have HL : Hid (Nums w a xs) := hl
  have hmk := run_ans n hn w
  have HB0 : Hid (Below w.heap.size w (madeAns w n)) := madeAns_below w n
  have HR0 : Hid (Room (madeAns w n) w.heap.size (n * 2)) := madeAns_row w n
  have HS0 : Hid ((madeAns w n).heap.size = w.heap.size + 1) := madeAns_size w n
  generalize madeAns w n = w1 at hmk HB0 HR0 HS0
  clear hl hx
  go_enter Try.func7, Try.ntmps7
  go_wp2
  go_loopw [4] (fun i wr => ∃ k : Nat, k ≤ n ∧ i = .int .i64 k ∧ (∀ j (hj : j < xs.length), j < k * 2 → wr.cell? ⟨w.heap.size, j, none⟩ = some (.int .i64 xs[j])) ∧ Room wr w.heap.size (n * 2) ∧ Below w.heap.size w wr ∧ w.heap.size < wr.heap.size) (fun i _ => n - (intOf i).toNat)
  case atStart => exact ⟨0, Nat.zero_le _, rfl, fun j hj h => by omega, HR0.out, HB0.out, by have := HS0.out; omega⟩
  case round =>
    obtain ⟨k, hk, rfl, hat, hrow, hb, hsz⟩ := hrel
    have HA : Hid (∀ j (hj : j < xs.length), j < k * 2 → wr.cell? ⟨w.heap.size, j, none⟩ = some (.int .i64 xs[j])) := hat
    have HR : Hid (Room wr w.heap.size (n * 2)) := hrow
    have HB : Hid (Below w.heap.size w wr) := hb
    clear hat hrow hb
    by_cases hlt : k < n
    · have hi0 : k * 2 < xs.length := by have := HX.out; omega
      have hi1 : k * 2 + 1 < xs.length := by have := HX.out; omega
      obtain ⟨b, off, rfl, c0⟩ := HL.out.below HB.out (k * 2) hi0
      obtain ⟨b1, off1, he, c1⟩ := HL.out.below HB.out (k * 2 + 1) hi1
      have e1 : b = b1 := by simpa using congrArg (fun a : Option Addr => (a.map Addr.block)) he
      have e2 : off = off1 := by simpa using congrArg (fun a : Option Addr => (a.map Addr.off)) he
      subst e1; subst e2
      obtain ⟨x, hxk⟩ : ∃ x, x = xs[k * 2] := ⟨_, rfl⟩
      obtain ⟨y, hyk⟩ : ∃ y, y = xs[k * 2 + 1] := ⟨_, rfl⟩
      rw [← hxk] at c0
      rw [← hyk] at c1
      have c1' : wr.cell? ⟨b, off + k * 2 + 1, none⟩ = some (.int .i64 y) := by rw [Nat.add_assoc]; exact c1
      have HXK : Hid (x = xs[k * 2] ∧ y = xs[k * 2 + 1]) := ⟨hxk, hyk⟩
      have HC : Hid (∀ w, Calls _ _ _ w _) := fun w => toAnswer_any w x y
      clear hxk hyk hmk he c1
      go_wp2_with fail
      refine (HC.out _).mono ?_
      rintro e w2 ⟨rfl, hb2⟩
      have HR2 : Hid (Room w2 w.heap.size (n * 2)) := fun j hj => by
        obtain ⟨⟨v, h0⟩, h1⟩ := HR.out j hj
        exact ⟨⟨v, by rw [hb2.cell (p := ⟨w.heap.size, j, none⟩) hsz]; exact h0⟩, by rw [hb2.frozen (p := ⟨w.heap.size, j, none⟩) hsz]; exact h1⟩
      have HB2 : Hid (Below w.heap.size w w2) := HB.out.trans (hb2.mono HB.out.size)
      have HA2 : Hid (∀ j (hj : j < xs.length), j < k * 2 → w2.cell? ⟨w.heap.size, j, none⟩ = some (.int .i64 xs[j])) := fun j hj h => by rw [hb2.cell (p := ⟨w.heap.size, j, none⟩) hsz]; exact HA.out j hj h
      have hsz2 : w.heap.size < w2.heap.size := Nat.lt_of_lt_of_le hsz hb2.size
      obtain ⟨⟨v0, d0⟩, f0⟩ := HR2.out (k * 2) (by omega)
      obtain ⟨⟨v1, d1⟩, f1⟩ := HR2.out (k * 2 + 1) (by omega)
      have HD : Hid (w2.cell? ⟨w.heap.size, k * 2, none⟩ = some v0 ∧ w2.cell? ⟨w.heap.size, k * 2 + 1, none⟩ = some v1) := ⟨d0, d1⟩
      clear hb2 c0 c1'
      go_wp2
      refine ⟨⟨k + 1, by omega, by go_num, ?_, (HR2.out.set _ _).set _ _, (HB2.out.setCell (p := ⟨w.heap.size, k * 2, none⟩) (Nat.le_refl _) _).setCell (p := ⟨w.heap.size, k * 2 + 1, none⟩) (Nat.le_refl _) _, by simpa using hsz2⟩, by simp [intOf]; omega⟩
      intro j hj hjk
      have ne : ∀ i j : Nat, i ≠ j → (⟨w.heap.size, i, none⟩ : Addr) ≠ ⟨w.heap.size, j, none⟩ := fun i j h q => h (by simpa using congrArg Addr.off q)
      by_cases hj1 : j = k * 2 + 1
      · subst hj1
        rw [World.cell?_setCell_same _ _ _ (by rw [World.cell?_setCell_other _ _ _ _ (ne _ _ (by omega))]; exact HD.out.2), HXK.out.2]
      · rw [World.cell?_setCell_other _ _ _ _ (ne _ _ (Ne.symm hj1))]
        by_cases hj0 : j = k * 2
        · subst hj0
          rw [World.cell?_setCell_same _ _ _ HD.out.1, HXK.out.1]
        · rw [World.cell?_setCell_other _ _ _ _ (ne _ _ (Ne.symm hj0))]
          exact HA2.out j hj (by omega)
    · go_wp2
      go_ret
      exact ⟨w.heap.size, rfl, Nat.le_refl _, hsz, fun i hi => ⟨rfl, HA.out i hi (by have := HX.out; omega), (HR.out i (by have := HX.out; omega)).2⟩, HB.out⟩
theorem szAnswerS_any (w : World) (a : Option Addr) (n cap : Nat) (_h : n ≤ maxLen) :
    Calls Try.prog 5 #[.slice a n cap, .int .i64 1048576] w fun e w' => e = .returned (.int .i64 (if (n : Int) ≤ 1048576 then 1048576 - (n : Int) else -1)) ∧ w = w' := by
  unfold maxLen at _h
  by_cases hle : (n : Int) ≤ 1048576
  · have hnn : ¬ (1048576 : Int) - (n : Int) < 0 := by omega
    have hw : IntKind.i64.wrap (1048576 - (n : Int)) = 1048576 - (n : Int) := by rw [IntKind.wrap_i64]; omega
    clear _h
    rw [if_pos hle]
    go_enter Try.func5, Try.ntmps5
    go_wp2
    go_ret
    exact ⟨rfl, rfl⟩
  · have hnn : (1048576 : Int) - (n : Int) < 0 := by omega
    have hw : IntKind.i64.wrap (1048576 - (n : Int)) = 1048576 - (n : Int) := by rw [IntKind.wrap_i64]; omega
    clear _h
    rw [if_neg hle]
    go_enter Try.func5, Try.ntmps5
    go_wp2
    go_ret
    exact ⟨rfl, rfl⟩
end Go.Proofs.Ytffejdggpoaniaa.ans
