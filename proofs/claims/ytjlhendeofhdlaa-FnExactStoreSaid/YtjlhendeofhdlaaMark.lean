/-
  A device that is written over with marks: only the block of its lines and new memory change. Whole numbers in a slice: copied, found alike, written over with marks, and the marks found again.
-/
import Derived.Test.YtjlhendeofhdlaaDev2
import Derived.Test.YtjlhendeofhdlaaConv
import Derived.Laws.AppendOwn
import Derived.Laws.Rows
import Derived.RegionTactic
namespace Go.Proofs.Ytjlhendeofhdlaa.dev
open Go.RowKit

theorem grown_refl (w : World) (r : Option Nat) : w.grownBy w r := ⟨rfl, rfl, rfl, Nat.le_refl _, fun _ _ _ => rfl⟩
theorem grown_trans {a b c : World} {r : Option Nat} (h1 : a.grownBy b r) (h2 : b.grownBy c r) : a.grownBy c r :=
  ⟨h2.os.trans h1.os, h2.tape.trans h1.tape, h2.output.trans h1.output, Nat.le_trans h1.size h2.size, fun k hk hne => (h2.block k (Nat.lt_of_lt_of_le hk h1.size) hne).trans (h1.block k hk hne)⟩
theorem grown_below {a b : World} (r : Option Nat) (h : Below a.heap.size a b) : a.grownBy b r := ⟨h.os, h.tape, h.output, h.size, fun k hk _ => h.block k hk⟩
theorem grown_set (w : World) (g o : Nat) (v : Value) : w.grownBy (w.setCell ⟨g, o, none⟩ v) (some g) :=
  ⟨rfl, rfl, rfl, by simp, fun k _ hne => Below.heap_setCell _ _ _ _ (fun e => hne (by rw [e]))⟩
theorem below_of_grown {w w' : World} {B g : Nat} (h : w.grownBy w' (some g)) (hB : B ≤ w.heap.size) (hg : B ≤ g) : Below B w w' :=
  ⟨h.os, h.tape, h.output, h.size, fun k hk => h.block k (by omega) (fun e => by have := Option.some.inj e; omega)⟩
theorem Row.grown {w w' : World} {g m : Nat} (h : Row w g m) (hb : Below w.heap.size w w') : Row w' g m := fun j hj => by
  obtain ⟨⟨v, hv⟩, _⟩ := h j hj
  exact h.below hb (World.block_lt_of_cell? w _ hv) j hj

theorem conv1 (w : World) (T : TypeId) (x : Int) :
    (convert 65 9 (.slice (some ⟨w.heap.size, 0, none⟩) 1 1)).run Try.prog (w.alloc (.cells #[.int .u8 x] T)) = .ok (.string (strOfNums [x])) (w.alloc (.cells #[.int .u8 x] T)) := by
  simpa using conv.conv_at w T [x] 1 1 (by simp)
set_option maxHeartbeats 1000000 in
theorem markText_some (w : World) (k : Nat) (h0 : 0 < k) (h1 : k ≤ 16777216) :
    Calls Try.prog 39 #[.int .i64 (k : Int)] w fun e w' => ∃ t, e = .returned (.string t) ∧ Below w.heap.size w w' := by
  have hcv := conv1
  go_enter Try.func39, Try.ntmps39
  go_wp2
  go_loopw [0, 3] (fun i t wr => ∃ (j : Nat) (s : ByteArray), i = .int .i64 j ∧ t = .string s ∧ s.size + j ≤ k ∧ Below w.heap.size w wr) (fun i _ _ => (intOf i).toNat)
  case atStart => exact ⟨k, ⟨#[]⟩, rfl, rfl, by simp [ByteArray.size], Below.refl _ _⟩
  case round =>
    obtain ⟨j, s, rfl, rfl, hsz, hb⟩ := hrel
    have HB : Hid (Below w.heap.size w wr) := hb
    clear hb
    by_cases hj : 0 < j
    · have hz : ∀ x, (strOfNums [x]).size = 1 := fun x => strOfNums_size [x]
      go_wp2
      go_roundw
      case rel => exact ⟨j / 10, _, by go_num, rfl, by simp [hz]; omega, HB.out.trans ((by go_grown : Below wr.heap.size wr _).mono HB.out.size)⟩
      case measure => simp [intOf]; omega
    · go_wp2
      go_ret
      exact ⟨_, rfl, HB.out⟩
set_option maxHeartbeats 2000000 in
theorem markLineS_any (w : World) (a : Option Addr) (g n cap : Nat) (k : Nat) (ha : 0 < n → a = some ⟨g, 0, none⟩) (hr : Row w g (n * 3)) (hn : n ≤ 1048576) (hk : 0 < k) (hk1 : k ≤ 4194304) :
    Calls Try.prog 29 #[.slice a n cap, .int .i64 (k : Int)] w fun e w' => e = .returned (.int .i64 ((k + n * 3 : Nat) : Int)) ∧ w.grownBy w' (some g) := by
  have HR : Hid (Row w g (n * 3)) := hr
  have HA : Hid (0 < n → a = some ⟨g, 0, none⟩) := ha
  clear hr ha
  go_enter Try.func29, Try.ntmps29
  go_wp2
  go_loopw [1, 5] (fun m i wr => ∃ j : Nat, j ≤ n ∧ i = .int .i64 j ∧ m = .int .i64 ((k + j * 3 : Nat) : Int) ∧ Row wr g (n * 3) ∧ w.grownBy wr (some g)) (fun _ i _ => n - (intOf i).toNat)
  case atStart => exact ⟨0, Nat.zero_le _, rfl, rfl, HR.out, grown_refl _ _⟩
  case round =>
    obtain ⟨j, hj, rfl, rfl, hrow, hgr⟩ := hrel
    have HRow : Hid (Row wr g (n * 3)) := hrow
    have HG : Hid (w.grownBy wr (some g)) := hgr
    clear hrow hgr
    by_cases hlt : j < n
    · have e := HA.out (by omega)
      subst e
      obtain ⟨⟨v0, d0⟩, f0⟩ := HRow.out (j * 3) (by omega)
      obtain ⟨km, hkm⟩ : ∃ km : Nat, km = k + j * 3 := ⟨_, rfl⟩
      rw [← hkm]
      have hkb : km ≤ 8388608 := by omega
      have hkp : 0 < km := by omega
      have HKM : Hid (km = k + j * 3) := hkm
      clear hkm
      have HR1 : Hid (Row (wr.setCell ⟨g, j * 3, none⟩ (.int .i64 (km : Int))) g (n * 3)) := HRow.out.set _ _
      have HG1 : Hid (w.grownBy (wr.setCell ⟨g, j * 3, none⟩ (.int .i64 (km : Int))) (some g)) := grown_trans HG.out (grown_set _ _ _ _)
      have HM : Hid (∀ w, Calls _ _ _ w _) := fun w => markText_some w (km + 1) (by omega) (by omega)
      have HM2 : Hid (∀ w, Calls _ _ _ w _) := fun w => markText_some w (km + 2) (by omega) (by omega)
      have e1 : ((km + 1 : Nat) : Int) = (km : Int) + 1 := by omega
      have e2 : ((km + 2 : Nat) : Int) = (km : Int) + 2 := by omega
      rw [e1] at HM
      rw [e2] at HM2
      clear e1 e2
      go_wp2_with fail
      generalize wr.setCell ⟨g, j * 3, none⟩ (.int .i64 (km : Int)) = w1 at HR1 HG1
      refine (HM.out _).mono ?_
      rintro e w2 ⟨t, rfl, hb2⟩
      have hr2 := HR1.out.grown hb2
      obtain ⟨⟨v1, d1⟩, f1⟩ := hr2 (j * 3 + 1) (by omega)
      have HR3 : Hid (Row (w2.setCell ⟨g, j * 3 + 1, none⟩ (.string t)) g (n * 3)) := hr2.set _ _
      have HG3 : Hid (w.grownBy (w2.setCell ⟨g, j * 3 + 1, none⟩ (.string t)) (some g)) := grown_trans (grown_trans HG1.out (grown_below _ hb2)) (grown_set _ _ _ _)
      clear hr2 hb2
      go_wp2_with fail
      generalize w2.setCell ⟨g, j * 3 + 1, none⟩ (.string t) = w3 at HR3 HG3
      refine (HM2.out _).mono ?_
      rintro e w4 ⟨t2, rfl, hb4⟩
      have hr4 := HR3.out.grown hb4
      obtain ⟨⟨v2, d2⟩, f2⟩ := hr4 (j * 3 + 2) (by omega)
      have HR5 : Hid (Row (w4.setCell ⟨g, j * 3 + 2, none⟩ (.string t2)) g (n * 3)) := hr4.set _ _
      have HG5 : Hid (w.grownBy (w4.setCell ⟨g, j * 3 + 2, none⟩ (.string t2)) (some g)) := grown_trans (grown_trans HG3.out (grown_below _ hb4)) (grown_set _ _ _ _)
      clear hr4 hb4
      go_wp2
      go_roundw
      case rel => exact ⟨j + 1, by omega, by go_num, by have := HKM.out; go_num, HR5.out, HG5.out⟩
      case measure => simp [intOf]; omega
    · have : j = n := by omega
      subst this
      go_wp2
      go_ret
      exact ⟨rfl, HG.out⟩
theorem markDevice_any (w : World) (safe : ByteArray) (a : Option Addr) (g n cap : Nat) (k : Nat) (ha : 0 < n → a = some ⟨g, 0, none⟩) (hr : Row w g (n * 3)) (hn : n ≤ 1048576) (hk : 0 < k) (hk1 : k ≤ 4194304) :
    Calls Try.prog 10 #[.agg #[.string safe, .slice a n cap], .int .i64 (k : Int)] w fun e w' => e = .returned (.int .i64 ((k + n * 3 : Nat) : Int)) ∧ w.grownBy w' (some g) := by
  have hb0 : Below w.heap.size w (w.alloc (.cells #[.string safe, .slice a n cap] 28)) := (Below.refl _ _).alloc (Nat.le_refl _) _
  have HC : Hid (Calls _ _ _ _ _) := markLineS_any (w.alloc (.cells #[.string safe, .slice a n cap] 28)) a g n cap k ha (hr.grown hb0) hn hk hk1
  clear hr ha
  go_enter Try.func10, Try.ntmps10
  go_wp2_with fail
  refine HC.out.mono ?_
  rintro e w2 ⟨rfl, hg2⟩
  go_wp2
  go_ret
  exact ⟨rfl, grown_trans (grown_below _ hb0) hg2⟩
/-- Whole numbers in a slice that begins at a block's head, and that may be written. -/
def Ints (w : World) (a : Option Addr) (g : Nat) (xs : List Int) : Prop :=
  ∀ i (hi : i < xs.length), a = some ⟨g, 0, none⟩ ∧ w.cell? ⟨g, i, none⟩ = some (.int .i64 xs[i]) ∧ w.frozen? ⟨g, i, none⟩ = false
theorem Ints.grown {w w' : World} {a : Option Addr} {g r : Nat} {xs : List Int} (h : Ints w a g xs) (hg : w.grownBy w' (some r)) (hne : g ≠ r) : Ints w' a g xs := fun i hi => by
  obtain ⟨e, h0, h1⟩ := h i hi
  have hlt := World.block_lt_of_cell? w _ h0
  have hbk := hg.block g hlt (fun q => hne (Option.some.inj q))
  exact ⟨e, by rw [World.cell?_of_block (a := ⟨g, i, none⟩) hbk]; exact h0, by rw [World.frozen?_of_block (a := ⟨g, i, none⟩) hbk]; exact h1⟩
theorem Ints.below {w w' : World} {a : Option Addr} {g : Nat} {xs : List Int} (h : Ints w a g xs) (hb : Below w.heap.size w w') : Ints w' a g xs := fun i hi => by
  obtain ⟨e, h0, h1⟩ := h i hi
  have hlt := World.block_lt_of_cell? w _ h0
  exact ⟨e, by rw [hb.cell (p := ⟨g, i, none⟩) hlt]; exact h0, by rw [hb.frozen (p := ⟨g, i, none⟩) hlt]; exact h1⟩
theorem Ints.lt {w : World} {a : Option Addr} {g : Nat} {xs : List Int} (h : Ints w a g xs) (h0 : 0 < xs.length) : g < w.heap.size := World.block_lt_of_cell? w _ (h 0 h0).2.1
theorem Ints.grown2 {w w' : World} {a : Option Addr} {g r : Nat} {xs : List Int} (h : Ints w a g xs) (hg : w.grownBy w' (some r)) (hne : 0 < xs.length → g ≠ r) : Ints w' a g xs := by
  by_cases h0 : 0 < xs.length
  · exact h.grown hg (hne h0)
  · exact fun i hi => by omega
theorem ints_of_row {w : World} {base : Nat} {v : Value} {xs : List Int} (h : w.ownsRow base 2 1 v xs.length (xs.map (Value.int .i64))) : ∃ a g cap, v = .slice a xs.length cap ∧ base ≤ g ∧ Ints w a g xs := by
  rcases h.2 with ⟨rfl, h0⟩ | ⟨g, cap, cur, rfl, hb, hg, hc, hcm, hcs, ht⟩
  · exact ⟨none, base, 0, by rw [h0], Nat.le_refl _, fun i hi => by omega⟩
  · refine ⟨_, g, cap, rfl, hb, fun i hi => ⟨rfl, ?_, ?_⟩⟩
    · have hx : (cur.toList.take (xs.length * 1))[i]? = some (.int .i64 xs[i]) := by rw [ht]; simp [List.getElem?_eq_getElem hi]
      rw [List.getElem?_take, if_pos (by omega)] at hx
      rw [cell_of_row w g i cur 2 (0, 0) hg]
      simpa using hx
    · simp [World.frozen?, hg]
theorem eqInt64S_same (w : World) (a b : Option Addr) (g h ca cb : Nat) (xs : List Int) (hn : xs.length ≤ 1048576) (ha : Ints w a g xs) (hb : Ints w b h xs) :
    Calls Try.prog 14 #[.slice a xs.length ca, .slice b xs.length cb] w fun e w' => e = .returned (.bool true) ∧ Below w.heap.size w w' := by
  have HA : Hid (Ints w a g xs) := ha
  have HBb : Hid (Ints w b h xs) := hb
  clear ha hb
  have hne : ((xs.length : Int) != (xs.length : Int)) = false := by simp
  go_enter Try.func14, Try.ntmps14
  go_wp2
  go_loopw [5] (fun i wr => ∃ k : Nat, k ≤ xs.length ∧ i = .int .i64 k ∧ Below w.heap.size w wr) (fun i _ => xs.length - (intOf i).toNat)
  case atStart => exact ⟨0, Nat.zero_le _, rfl, Below.refl _ _⟩
  case round =>
    obtain ⟨k, hk, rfl, hb⟩ := hrel
    have HB : Hid (Below w.heap.size w wr) := hb
    clear hb
    by_cases hlt : k < xs.length
    · obtain ⟨rfl, c0, _⟩ := HA.out.below HB.out k hlt
      obtain ⟨rfl, d0, _⟩ := HBb.out.below HB.out k hlt
      generalize xs[k] = x at c0 d0
      have hx : (x != x) = false := by simp
      have hlt' : (k : Int) < (xs.length : Int) := by omega
      have HD : Hid (Below w.heap.size w wr.drew) := HB.out.drew
      go_wp2
      go_region
      all_goals
        go_wp2
        go_roundw
        case rel => exact ⟨k + 1, by omega, by go_num, HD.out⟩
        case measure => simp [intOf]; omega
    · go_wp2
      go_ret
      exact ⟨rfl, HB.out⟩
/-- The marks from a number on. -/
def marks (k n : Nat) : List Int := (List.range n).map fun i => ((k + i : Nat) : Int)
theorem marks_len (k n : Nat) : (marks k n).length = n := by simp [marks]
theorem marks_at (k n i : Nat) (h : i < (marks k n).length) : (marks k n)[i] = ((k + i : Nat) : Int) := by simp [marks]
theorem markInt64S_any (w : World) (a : Option Addr) (g n cap : Nat) (xs : List Int) (k : Nat) (hxs : xs.length = n) (ha : Ints w a g xs) (hn : n ≤ 1048576) (hk1 : k ≤ 4194304) :
    Calls Try.prog 15 #[.slice a n cap, .int .i64 (k : Int)] w fun e w' => e = .returned (.int .i64 ((k + n : Nat) : Int)) ∧ w.grownBy w' (some g) ∧ Ints w' a g (marks k n) := by
  have HA : Hid (∀ i, i < n → a = some ⟨g, 0, none⟩ ∧ (∃ v, w.cell? ⟨g, i, none⟩ = some v) ∧ w.frozen? ⟨g, i, none⟩ = false) := fun i hi => by
    obtain ⟨e, h0, h1⟩ := ha i (by omega)
    exact ⟨e, ⟨_, h0⟩, h1⟩
  clear ha hxs
  go_enter Try.func15, Try.ntmps15
  go_wp2
  go_loopw [1, 5] (fun m i wr => ∃ j : Nat, j ≤ n ∧ i = .int .i64 j ∧ m = .int .i64 ((k + j : Nat) : Int) ∧ w.grownBy wr (some g) ∧ ∀ i, i < n → a = some ⟨g, 0, none⟩ ∧ (∃ v, wr.cell? ⟨g, i, none⟩ = some v ∧ (i < j → v = .int .i64 ((k + i : Nat) : Int))) ∧ wr.frozen? ⟨g, i, none⟩ = false) (fun _ i _ => n - (intOf i).toNat)
  case atStart => exact ⟨0, Nat.zero_le _, rfl, rfl, grown_refl _ _, fun i hi => ⟨(HA.out i hi).1, ⟨_, (HA.out i hi).2.1.choose_spec, fun h => by omega⟩, (HA.out i hi).2.2⟩⟩
  case round =>
    obtain ⟨j, hj, rfl, rfl, hgr, hat⟩ := hrel
    have HG : Hid (w.grownBy wr (some g)) := hgr
    have HT : Hid (∀ i, i < n → a = some ⟨g, 0, none⟩ ∧ (∃ v, wr.cell? ⟨g, i, none⟩ = some v ∧ (i < j → v = .int .i64 ((k + i : Nat) : Int))) ∧ wr.frozen? ⟨g, i, none⟩ = false) := hat
    clear hgr hat
    by_cases hlt : j < n
    · obtain ⟨rfl, ⟨v0, d0, _⟩, f0⟩ := HT.out j hlt
      obtain ⟨km, hkm⟩ : ∃ km : Nat, km = k + j := ⟨_, rfl⟩
      rw [← hkm]
      have hkb : km ≤ 8388608 := by omega
      have HKM : Hid (km = k + j) := hkm
      clear hkm
      go_wp2
      go_roundw
      case rel =>
        refine ⟨j + 1, by omega, by go_num, by have := HKM.out; go_num, grown_trans HG.out (grown_set _ _ _ _), fun i hi => ⟨trivial, ?_, by rw [World.frozen?_setCell]; exact (HT.out i hi).2.2⟩⟩
        by_cases e : i = j
        · subst e
          exact ⟨_, World.cell?_setCell_same _ _ _ d0, fun _ => by rw [HKM.out]⟩
        · obtain ⟨_, ⟨v, hv, hvi⟩, _⟩ := HT.out i hi
          exact ⟨v, by rw [World.cell?_setCell_other _ _ _ _ (fun q => e (congrArg Addr.off q).symm)]; exact hv, fun h => hvi (by omega)⟩
      case measure => simp [intOf]; omega
    · have : j = n := by omega
      subst this
      go_wp2
      go_ret
      refine ⟨rfl, HG.out, fun i hi => ?_⟩
      have hi' : i < j := by rw [marks_len] at hi; exact hi
      obtain ⟨e, ⟨v, hv, hvi⟩, hf⟩ := HT.out i hi'
      rw [marks_at]
      exact ⟨e, by rw [hv, hvi hi'], hf⟩
theorem heldInt64S_any (w : World) (a : Option Addr) (g n cap : Nat) (k : Nat) (ha : Ints w a g (marks k n)) (hn : n ≤ 1048576) (hk1 : k ≤ 4194304) :
    Calls Try.prog 16 #[.slice a n cap, .int .i64 (k : Int)] w fun e w' => e = .returned (.int .i64 ((k + n : Nat) : Int)) ∧ Below w.heap.size w w' := by
  have HA : Hid (∀ i, i < n → a = some ⟨g, 0, none⟩ ∧ w.cell? ⟨g, i, none⟩ = some (.int .i64 ((k + i : Nat) : Int))) := fun i hi => by
    obtain ⟨e, h0, _⟩ := ha i (by rw [marks_len]; exact hi)
    rw [marks_at] at h0
    exact ⟨e, h0⟩
  clear ha
  go_enter Try.func16, Try.ntmps16
  go_wp2
  go_loopw [1, 5] (fun m i wr => ∃ j : Nat, j ≤ n ∧ i = .int .i64 j ∧ m = .int .i64 ((k + j : Nat) : Int) ∧ wr = w) (fun _ i _ => n - (intOf i).toNat)
  case atStart => exact ⟨0, Nat.zero_le _, rfl, rfl, rfl⟩
  case round =>
    obtain ⟨j, hj, rfl, rfl, rfl⟩ := hrel
    by_cases hlt : j < n
    · obtain ⟨rfl, d0⟩ := HA.out j hlt
      obtain ⟨km, hkm⟩ : ∃ km : Nat, km = k + j := ⟨_, rfl⟩
      rw [← hkm] at d0 ⊢
      have hkb : km ≤ 8388608 := by omega
      have hx : ((km : Int) != (km : Int)) = false := by simp
      have HKM : Hid (km = k + j) := hkm
      clear hkm
      go_wp2
      go_roundw
      case rel => exact ⟨j + 1, by omega, by go_num, by have := HKM.out; go_num, trivial⟩
      case measure => simp [intOf]; omega
    · have : j = n := by omega
      subst this
      go_wp2
      go_ret
      exact ⟨rfl, Below.refl _ _⟩
end Go.Proofs.Ytjlhendeofhdlaa.dev
