/-
  Slices of whole numbers: copied, held against each other, marked, and their marks found again; what a call owns of them.
-/
import Derived.Test.YthjfgibflbbgmaaRows
import Derived.WalkKit
import Derived.WalkSpells
import Derived.Handy
import Derived.Below
import Derived.Deep.OwnRows
import Derived.Deep.AppendLies
namespace Go.Proofs.Ythjfgibflbbgmaa.ints
open Go.RowKit

def Room (w : World) (g m : Nat) : Prop := ∀ j, j < m → (∃ v, w.cell? ⟨g, j, none⟩ = some v) ∧ w.frozen? ⟨g, j, none⟩ = false
theorem Room.below {w w' : World} {g m B : Nat} (h : Room w g m) (hb : Below B w w') (hg : g < B) : Room w' g m := fun j hj => by
  rw [hb.cell (p := ⟨g, j, none⟩) hg, hb.frozen (p := ⟨g, j, none⟩) hg]; exact h j hj
theorem Room.set {w : World} {g m : Nat} (h : Room w g m) (a : Addr) (x : Value) : Room (w.setCell a x) g m := fun j hj => by
  obtain ⟨⟨v, hv⟩, hf⟩ := h j hj
  exact ⟨cell?_setCell_some hv, by rw [World.frozen?_setCell]; exact hf⟩
theorem grown_refl (w : World) (r : Option Nat) : w.grownBy w r := ⟨rfl, rfl, rfl, Nat.le_refl _, fun _ _ _ => rfl⟩
theorem grown_trans {a b c : World} {r : Option Nat} (h1 : a.grownBy b r) (h2 : b.grownBy c r) : a.grownBy c r :=
  ⟨h2.os.trans h1.os, h2.tape.trans h1.tape, h2.output.trans h1.output, Nat.le_trans h1.size h2.size, fun k hk hne => (h2.block k (Nat.lt_of_lt_of_le hk h1.size) hne).trans (h1.block k hk hne)⟩
theorem grown_below {a b : World} (r : Option Nat) (h : Below a.heap.size a b) : a.grownBy b r := ⟨h.os, h.tape, h.output, h.size, fun k hk _ => h.block k hk⟩
theorem grown_set (w : World) (g o : Nat) (v : Value) : w.grownBy (w.setCell ⟨g, o, none⟩ v) (some g) :=
  ⟨rfl, rfl, rfl, by simp, fun k _ hne => Below.heap_setCell _ _ _ _ (fun e => hne (by rw [e]))⟩
theorem below_of_grown {w w' : World} {B g : Nat} (h : w.grownBy w' (some g)) (hB : B ≤ w.heap.size) (hg : B ≤ g) : Below B w w' :=
  ⟨h.os, h.tape, h.output, h.size, fun k hk => h.block k (by omega) (fun e => by have := Option.some.inj e; omega)⟩
theorem Room.grown {w w' : World} {g m : Nat} (h : Room w g m) (hb : Below w.heap.size w w') : Room w' g m := fun j hj => by
  obtain ⟨⟨v, hv⟩, _⟩ := h j hj
  exact h.below hb (World.block_lt_of_cell? w _ hv) j hj
/-- Whole numbers in a slice that begins at a block's head, and that may be written. -/
def Ints (w : World) (a : Option Addr) (g : Nat) (xs : List Int) : Prop :=
  ∀ i (hi : i < xs.length), a = some ⟨g, 0, none⟩ ∧ w.cell? ⟨g, i, none⟩ = some (.int .i64 xs[i]) ∧ w.frozen? ⟨g, i, none⟩ = false
theorem Ints.grown {w w' : World} {a : Option Addr} {g r : Nat} {xs : List Int} (h : Ints w a g xs) (hg : w.grownBy w' (some r)) (hne : g ≠ r) : Ints w' a g xs := fun i hi => by
  obtain ⟨e, h0, h1⟩ := h i hi
  have hlt := World.block_lt_of_cell? w _ h0
  have hbk := hg.block g hlt (fun q => hne (Option.some.inj q))
  exact ⟨e, by rw [World.cell?_of_block (a := ⟨g, i, none⟩) hbk]; exact h0, by rw [World.frozen?_of_block (a := ⟨g, i, none⟩) hbk]; exact h1⟩
theorem Ints.below {w w' : World} {a : Option Addr} {g : Nat} {xs : List Int} (h : Ints w a g xs) (hb : Below w.heap.size w w') : Ints w' a g xs := fun i hi => by
  obtain ⟨e, h0, h1⟩ := h i hi
  have hlt := World.block_lt_of_cell? w _ h0
  exact ⟨e, by rw [hb.cell (p := ⟨g, i, none⟩) hlt]; exact h0, by rw [hb.frozen (p := ⟨g, i, none⟩) hlt]; exact h1⟩
theorem Ints.lt {w : World} {a : Option Addr} {g : Nat} {xs : List Int} (h : Ints w a g xs) (h0 : 0 < xs.length) : g < w.heap.size := World.block_lt_of_cell? w _ (h 0 h0).2.1
theorem Ints.grown2 {w w' : World} {a : Option Addr} {g r : Nat} {xs : List Int} (h : Ints w a g xs) (hg : w.grownBy w' (some r)) (hne : 0 < xs.length → g ≠ r) : Ints w' a g xs := by
  by_cases h0 : 0 < xs.length
  · exact h.grown hg (hne h0)
  · exact fun i hi => by omega
theorem ints_of_row {w : World} {base : Nat} {v : Value} {xs : List Int} (h : w.ownsRow base 2 1 v xs.length (xs.map (Value.int .i64))) : ∃ a g cap, v = .slice a xs.length cap ∧ base ≤ g ∧ Ints w a g xs := by
  rcases h.2 with ⟨rfl, h0⟩ | ⟨g, cap, cur, rfl, hb, hg, hc, hcm, hcs, ht⟩
  · exact ⟨none, base, 0, by rw [h0], Nat.le_refl _, fun i hi => by omega⟩
  · refine ⟨_, g, cap, rfl, hb, fun i hi => ⟨rfl, ?_, ?_⟩⟩
    · have hx : (cur.toList.take (xs.length * 1))[i]? = some (.int .i64 xs[i]) := by rw [ht]; simp [List.getElem?_eq_getElem hi]
      rw [List.getElem?_take, if_pos (by omega)] at hx
      rw [cell_of_row w g i cur 2 (0, 0) hg]
      simpa using hx
    · simp [World.frozen?, hg]
theorem eqInt64S_same (w : World) (a b : Option Addr) (g h ca cb : Nat) (xs : List Int) (hn : xs.length ≤ 1048576) (ha : Ints w a g xs) (hb : Ints w b h xs) :
    Calls Try.prog 16 #[.slice a xs.length ca, .slice b xs.length cb] w fun e w' => e = .returned (.bool true) ∧ Below w.heap.size w w' := by
  have HA : Hid (Ints w a g xs) := ha
  have HBb : Hid (Ints w b h xs) := hb
  clear ha hb
  have hne : ((xs.length : Int) != (xs.length : Int)) = false := by simp
  go_enter Try.func16, Try.ntmps16
  go_wp2
  go_loopw [5] (fun i wr => ∃ k : Nat, k ≤ xs.length ∧ i = .int .i64 k ∧ Below w.heap.size w wr) (fun i _ => xs.length - (intOf i).toNat)
  case atStart => exact ⟨0, Nat.zero_le _, rfl, Below.refl _ _⟩
  case round =>
    obtain ⟨k, hk, rfl, hb⟩ := hrel
    have HB : Hid (Below w.heap.size w wr) := hb
    clear hb
    by_cases hlt : k < xs.length
    · obtain ⟨rfl, c0, _⟩ := HA.out.below HB.out k hlt
      obtain ⟨rfl, d0, _⟩ := HBb.out.below HB.out k hlt
      generalize xs[k] = x at c0 d0
      have hx : (x != x) = false := by simp
      have hlt' : (k : Int) < (xs.length : Int) := by omega
      have HD : Hid (Below w.heap.size w wr.drew) := HB.out.drew
      go_wp2
      go_region
      all_goals
        go_wp2
        go_roundw
        case rel => exact ⟨k + 1, by omega, by go_num, HD.out⟩
        case measure => simp [intOf]; omega
    · go_wp2
      go_ret
      exact ⟨rfl, HB.out⟩
theorem sameInts_same (w : World) (a b : Option Addr) (g h ca cb : Nat) (xs : List Int) (hn : xs.length ≤ 1048576) (ha : Ints w a g xs) (hb : Ints w b h xs) :
    Calls Try.prog 56 #[.slice a xs.length ca, .slice b xs.length cb] w fun e w' => e = .returned (.bool true) ∧ Below w.heap.size w w' := by
  have HA : Hid (Ints w a g xs) := ha
  have HBb : Hid (Ints w b h xs) := hb
  clear ha hb
  have hne : ((xs.length : Int) != (xs.length : Int)) = false := by simp
  go_enter Try.func56, Try.ntmps56
  go_wp2
  go_loopw [5] (fun i wr => ∃ k : Nat, k ≤ xs.length ∧ i = .int .i64 k ∧ Below w.heap.size w wr) (fun i _ => xs.length - (intOf i).toNat)
  case atStart => exact ⟨0, Nat.zero_le _, rfl, Below.refl _ _⟩
  case round =>
    obtain ⟨k, hk, rfl, hb⟩ := hrel
    have HB : Hid (Below w.heap.size w wr) := hb
    clear hb
    by_cases hlt : k < xs.length
    · obtain ⟨rfl, c0, _⟩ := HA.out.below HB.out k hlt
      obtain ⟨rfl, d0, _⟩ := HBb.out.below HB.out k hlt
      generalize xs[k] = x at c0 d0
      have hx : (x != x) = false := by simp
      have hlt' : (k : Int) < (xs.length : Int) := by omega
      have HD : Hid (Below w.heap.size w wr.drew) := HB.out.drew
      go_wp2
      go_region
      all_goals
        go_wp2
        go_roundw
        case rel => exact ⟨k + 1, by omega, by go_num, HD.out⟩
        case measure => simp [intOf]; omega
    · go_wp2
      go_ret
      exact ⟨rfl, HB.out⟩
/-- The marks from a number on. -/
def marks (k n : Nat) : List Int := (List.range n).map fun i => ((k + i : Nat) : Int)
theorem marks_len (k n : Nat) : (marks k n).length = n := by simp [marks]
theorem marks_at (k n i : Nat) (h : i < (marks k n).length) : (marks k n)[i] = ((k + i : Nat) : Int) := by simp [marks]
theorem markInt64S_any (w : World) (a : Option Addr) (g n cap : Nat) (xs : List Int) (k : Nat) (hxs : xs.length = n) (ha : Ints w a g xs) (hn : n ≤ 1048576) (hk1 : k ≤ 4194304) :
    Calls Try.prog 21 #[.slice a n cap, .int .i64 (k : Int)] w fun e w' => e = .returned (.int .i64 ((k + n : Nat) : Int)) ∧ w.grownBy w' (some g) ∧ Ints w' a g (marks k n) := by
  have HA : Hid (∀ i, i < n → a = some ⟨g, 0, none⟩ ∧ (∃ v, w.cell? ⟨g, i, none⟩ = some v) ∧ w.frozen? ⟨g, i, none⟩ = false) := fun i hi => by
    obtain ⟨e, h0, h1⟩ := ha i (by omega)
    exact ⟨e, ⟨_, h0⟩, h1⟩
  clear ha hxs
  go_enter Try.func21, Try.ntmps21
  go_wp2
  go_loopw [1, 5] (fun m i wr => ∃ j : Nat, j ≤ n ∧ i = .int .i64 j ∧ m = .int .i64 ((k + j : Nat) : Int) ∧ w.grownBy wr (some g) ∧ ∀ i, i < n → a = some ⟨g, 0, none⟩ ∧ (∃ v, wr.cell? ⟨g, i, none⟩ = some v ∧ (i < j → v = .int .i64 ((k + i : Nat) : Int))) ∧ wr.frozen? ⟨g, i, none⟩ = false) (fun _ i _ => n - (intOf i).toNat)
  case atStart => exact ⟨0, Nat.zero_le _, rfl, rfl, grown_refl _ _, fun i hi => ⟨(HA.out i hi).1, ⟨_, (HA.out i hi).2.1.choose_spec, fun h => by omega⟩, (HA.out i hi).2.2⟩⟩
  case round =>
    obtain ⟨j, hj, rfl, rfl, hgr, hat⟩ := hrel
    have HG : Hid (w.grownBy wr (some g)) := hgr
    have HT : Hid (∀ i, i < n → a = some ⟨g, 0, none⟩ ∧ (∃ v, wr.cell? ⟨g, i, none⟩ = some v ∧ (i < j → v = .int .i64 ((k + i : Nat) : Int))) ∧ wr.frozen? ⟨g, i, none⟩ = false) := hat
    clear hgr hat
    by_cases hlt : j < n
    · obtain ⟨rfl, ⟨v0, d0, _⟩, f0⟩ := HT.out j hlt
      obtain ⟨km, hkm⟩ : ∃ km : Nat, km = k + j := ⟨_, rfl⟩
      rw [← hkm]
      have hkb : km ≤ 8388608 := by omega
      have HKM : Hid (km = k + j) := hkm
      clear hkm
      go_wp2
      go_roundw
      case rel =>
        refine ⟨j + 1, by omega, by go_num, by have := HKM.out; go_num, grown_trans HG.out (grown_set _ _ _ _), fun i hi => ⟨trivial, ?_, by rw [World.frozen?_setCell]; exact (HT.out i hi).2.2⟩⟩
        by_cases e : i = j
        · subst e
          exact ⟨_, World.cell?_setCell_same _ _ _ d0, fun _ => by rw [HKM.out]⟩
        · obtain ⟨_, ⟨v, hv, hvi⟩, _⟩ := HT.out i hi
          exact ⟨v, by rw [World.cell?_setCell_other _ _ _ _ (fun q => e (congrArg Addr.off q).symm)]; exact hv, fun h => hvi (by omega)⟩
      case measure => simp [intOf]; omega
    · have : j = n := by omega
      subst this
      go_wp2
      go_ret
      refine ⟨rfl, HG.out, fun i hi => ?_⟩
      have hi' : i < j := by rw [marks_len] at hi; exact hi
      obtain ⟨e, ⟨v, hv, hvi⟩, hf⟩ := HT.out i hi'
      rw [marks_at]
      exact ⟨e, by rw [hv, hvi hi'], hf⟩
theorem heldInt64S_any (w : World) (a : Option Addr) (g n cap : Nat) (k : Nat) (ha : Ints w a g (marks k n)) (hn : n ≤ 1048576) (hk1 : k ≤ 4194304) :
    Calls Try.prog 22 #[.slice a n cap, .int .i64 (k : Int)] w fun e w' => e = .returned (.int .i64 ((k + n : Nat) : Int)) ∧ Below w.heap.size w w' := by
  have HA : Hid (∀ i, i < n → a = some ⟨g, 0, none⟩ ∧ w.cell? ⟨g, i, none⟩ = some (.int .i64 ((k + i : Nat) : Int))) := fun i hi => by
    obtain ⟨e, h0, _⟩ := ha i (by rw [marks_len]; exact hi)
    rw [marks_at] at h0
    exact ⟨e, h0⟩
  clear ha
  go_enter Try.func22, Try.ntmps22
  go_wp2
  go_loopw [1, 5] (fun m i wr => ∃ j : Nat, j ≤ n ∧ i = .int .i64 j ∧ m = .int .i64 ((k + j : Nat) : Int) ∧ wr = w) (fun _ i _ => n - (intOf i).toNat)
  case atStart => exact ⟨0, Nat.zero_le _, rfl, rfl, rfl⟩
  case round =>
    obtain ⟨j, hj, rfl, rfl, rfl⟩ := hrel
    by_cases hlt : j < n
    · obtain ⟨rfl, d0⟩ := HA.out j hlt
      obtain ⟨km, hkm⟩ : ∃ km : Nat, km = k + j := ⟨_, rfl⟩
      rw [← hkm] at d0 ⊢
      have hkb : km ≤ 8388608 := by omega
      have hx : ((km : Int) != (km : Int)) = false := by simp
      have HKM : Hid (km = k + j) := hkm
      clear hkm
      go_wp2
      go_roundw
      case rel => exact ⟨j + 1, by omega, by go_num, by have := HKM.out; go_num, trivial⟩
      case measure => simp [intOf]; omega
    · have : j = n := by omega
      subst this
      go_wp2
      go_ret
      exact ⟨rfl, Below.refl _ _⟩
/-- Whole numbers in a slice that is handed in. -/
def Nums (w : World) (a : Option Addr) (xs : List Int) : Prop :=
  ∀ i (hi : i < xs.length), ∃ b off : Nat, a = some ⟨b, off, none⟩ ∧ w.cell? ⟨b, off + i, none⟩ = some (.int .i64 xs[i])
theorem Nums.below {w w' : World} {a : Option Addr} {xs : List Int} (h : Nums w a xs) (hb : Below w.heap.size w w') : Nums w' a xs := fun i hi => by
  obtain ⟨b, off, e, h0⟩ := h i hi
  exact ⟨b, off, e, by rw [hb.cell (p := ⟨b, off + i, none⟩) (World.block_lt_of_cell? w _ h0)]; exact h0⟩
theorem Ints.nums {w : World} {a : Option Addr} {g : Nat} {xs : List Int} (h : Ints w a g xs) : Nums w a xs := fun i hi => by
  obtain ⟨e, h0, _⟩ := h i hi
  exact ⟨g, 0, e, by rw [Nat.zero_add]; exact h0⟩

theorem infoInt64 : (Try.prog.info? 2).map (fun i => (i.zero, i.size, i.bytes)) = some (some (.int .i64 0), 1, 8) := by kernel_rfl
def madeInts (w : World) (n : Nat) : World := w.alloc (.cells (madeCells #[.int .i64 0] (n * 1)) 2)
theorem run_ints (n : Nat) (h : n ≤ 1048576) (w : World) : (Instr.makeSlice 23 (.int .i64 (n : Int)) (.int .i64 (n : Int))).run Try.prog w = .ok (.slice (some ⟨w.heap.size, 0, none⟩) n n) (madeInts w n) := by
  obtain ⟨i, hi, hzz⟩ := Option.map_eq_some_iff.1 infoInt64
  simp only [Prod.mk.injEq] at hzz
  obtain ⟨hz, hs, hb⟩ := hzz
  have hr := run_make (P := Try.prog) w 23 2 i _ Try.underlying23 hi hz .i64 .i64 n n (by omega) (Int.le_refl _) (by rw [hb]; omega) (by omega)
  simp only [Int.toNat_natCast, hs] at hr
  exact hr
theorem madeInts_below (w : World) (n : Nat) : Below w.heap.size w (madeInts w n) := (Below.refl _ _).alloc (Nat.le_refl _) _
theorem madeInts_size (w : World) (n : Nat) : (madeInts w n).heap.size = w.heap.size + 1 := by unfold madeInts; simp
theorem madeInts_row (w : World) (n : Nat) : Room (madeInts w n) w.heap.size n := fun j hj => by
  unfold madeInts
  refine ⟨?_, World.frozen?_alloc_new _ _ _ _⟩
  rw [World.cell?_alloc_new]
  exact ⟨_, Array.getElem?_eq_getElem (by rw [size_madeCells]; omega)⟩
set_option maxHeartbeats 1000000 in
theorem toInt64S_any (w : World) (a : Option Addr) (cap : Nat) (xs : List Int) (hn : xs.length ≤ 1048576) (hl : Nums w a xs) :
    Calls Try.prog 41 #[.slice a xs.length cap] w fun e w' => ∃ g : Nat, e = .returned (.slice (some ⟨g, 0, none⟩) xs.length xs.length) ∧ w.heap.size ≤ g ∧ g < w'.heap.size ∧ Ints w' (some ⟨g, 0, none⟩) g xs ∧ Below w.heap.size w w' := by
  have HL : Hid (Nums w a xs) := hl
  have hmk := run_ints xs.length hn w
  have HB0 : Hid (Below w.heap.size w (madeInts w xs.length)) := madeInts_below w xs.length
  have HR0 : Hid (Room (madeInts w xs.length) w.heap.size xs.length) := madeInts_row w xs.length
  have HS0 : Hid ((madeInts w xs.length).heap.size = w.heap.size + 1) := madeInts_size w xs.length
  generalize madeInts w xs.length = w1 at hmk HB0 HR0 HS0
  clear hl
  go_enter Try.func41, Try.ntmps41
  go_wp2
  go_loopw [4] (fun i wr => ∃ k : Nat, k ≤ xs.length ∧ i = .int .i64 k ∧ (∀ j (hj : j < xs.length), j < k → wr.cell? ⟨w.heap.size, j, none⟩ = some (.int .i64 xs[j])) ∧ Room wr w.heap.size xs.length ∧ Below w.heap.size w wr ∧ w.heap.size < wr.heap.size) (fun i _ => xs.length - (intOf i).toNat)
  case atStart => exact ⟨0, Nat.zero_le _, rfl, fun j hj h => by omega, HR0.out, HB0.out, by have := HS0.out; omega⟩
  case round =>
    obtain ⟨k, hk, rfl, hat, hrow, hb, hsz⟩ := hrel
    have HA : Hid (∀ j (hj : j < xs.length), j < k → wr.cell? ⟨w.heap.size, j, none⟩ = some (.int .i64 xs[j])) := hat
    have HR : Hid (Room wr w.heap.size xs.length) := hrow
    have HB : Hid (Below w.heap.size w wr) := hb
    clear hat hrow hb
    by_cases hlt : k < xs.length
    · obtain ⟨b, off, rfl, c0⟩ := HL.out.below HB.out k hlt
      obtain ⟨x, hxk⟩ : ∃ x, x = xs[k] := ⟨_, rfl⟩
      rw [← hxk] at c0
      have HXK : Hid (x = xs[k]) := hxk
      obtain ⟨⟨v0, d0⟩, f0⟩ := HR.out k hlt
      have D0 : Hid (wr.cell? ⟨w.heap.size, k, none⟩ = some v0) := d0
      clear hxk hmk
      go_wp2
      refine ⟨⟨k + 1, by omega, by go_num, ?_, HR.out.set _ _, HB.out.setCell (p := ⟨w.heap.size, k, none⟩) (Nat.le_refl _) _, by simpa using hsz⟩, by simp [intOf]; omega⟩
      intro j hj hjk
      by_cases hjl : j < k
      · rw [World.cell?_setCell_other _ _ _ _ (fun q => by have := congrArg Addr.off q; simp at this; omega)]
        exact HA.out j hj hjl
      · have hjk' : j = k := by omega
        subst hjk'
        rw [World.cell?_setCell_same _ _ _ D0.out, HXK.out]
    · go_wp2
      go_ret
      exact ⟨w.heap.size, rfl, Nat.le_refl _, hsz, fun i hi => ⟨rfl, HA.out i hi (by omega), (HR.out i hi).2⟩, HB.out⟩
theorem grown_own {w w' : World} {B : Nat} {v : Value} (h : w.grownBy w' v.ownBlock) (hv : ∀ k, v.ownBlock = some k → B ≤ k) (hB : B ≤ w.heap.size) : Below B w w' :=
  ⟨h.os, h.tape, h.output, h.size, fun k hk => h.block k (by omega) (fun e => by have := hv k e.symm; omega)⟩
theorem own_mono {w : World} {B B' : Nat} {e : TypeId} {size : Nat} {v : Value} {n : Nat} {xs : List Value} (h : w.ownsRow B e size v n xs) (hB : B' ≤ B) : w.ownsRow B' e size v n xs := by
  refine ⟨h.1, ?_⟩
  rcases h.2 with h2 | ⟨g, cap, cur, h1, h2, h3⟩
  · exact .inl h2
  · exact .inr ⟨g, cap, cur, h1, by omega, h3⟩
theorem own_below {w w' : World} {B : Nat} {e : TypeId} {size : Nat} {v : Value} {n : Nat} {xs : List Value} (h : w.ownsRow B e size v n xs) (hb : Below w.heap.size w w') : w'.ownsRow B e size v n xs :=
  h.kept (grown_below none hb) (by
    rcases hv : v.ownBlock with _ | k
    · exact .inl rfl
    · exact .inr (by simp))
/-- One more behind what a slice has, in whatever world. -/
theorem own_step {w w1 : World} {B : Nat} {v : Value} {n : Nat} {xs : List Value} {W : World} (h : w.ownsRow B 2 1 v n xs) (hb : Below B W w) (hB : B ≤ w.heap.size) (hg : w.grownBy w1 v.ownBlock) : Below B W w1 :=
  hb.trans (grown_own hg (fun k hk => (h.lt k hk).1) hB)
/-- One number more behind a slice that the call owns. -/
theorem wpList_push {ops : Array Oper} {rest : List Oper} {o : Oper} {a : Act} {Q : Exit → Act → World → Prop} (X : World) (hgd : o.guard = none) (s x : Operand)
    (ho : o.op = .call { callee := .builtin .append, args := #[s, x], argTypes := #[23, 23] }) (base : Nat) (v : Value) (xs : List Int) (y : Int)
    (hown : X.ownsRow base 2 1 v xs.length (xs.map (Value.int .i64))) (hs : a.eval s = v) (hx : a.eval x = .slice (some ⟨X.heap.size, 0, none⟩) 1 1) (hn : xs.length ≤ 1048576) (hbase : base ≤ X.heap.size)
    (h : ∀ g cap w', w'.ownsRow base 2 1 (.slice (some ⟨g, 0, none⟩) (xs.length + 1) cap) (xs ++ [y]).length ((xs ++ [y]).map (Value.int .i64)) → Below base X w' → base ≤ w'.heap.size → wpList Try.prog ops Q rest (a.put o.dst (.slice (some ⟨g, 0, none⟩) (xs.length + 1) cap)) w') :
    wpList Try.prog ops Q (o :: rest) a (X.alloc (.cells #[.int .i64 y] 2)) := by
  obtain ⟨i0, hi, hzz⟩ := Option.map_eq_some_iff.1 infoInt64
  simp only [Prod.mk.injEq] at hzz
  obtain ⟨hz0, hz1, hz2⟩ := hzz
  refine wpList_append_lies _ hgd s x 23 ho base 2 i0 (.int .i64 0) 1 8 Try.underlying23 hi hz0 hz1 hz2 rfl (by decide) v xs.length _ hs (hown.alloc _) ⟨X.heap.size, 0, none⟩ 1 1 [.int .i64 y] hx rfl ?_ ?_ (by decide) ?_ ?_ ?_ _ rfl ?_
  · intro j u hj
    match j, hj with
    | 0, hj => simp at hj; subst hj; rw [show (⟨X.heap.size, 0, none⟩ : Addr).add 0 = ⟨X.heap.size, 0, none⟩ from rfl, World.cell?_alloc_new]; rfl
  · intro u hu; simp at hu; subst hu; rfl
  · unfold maxLen; omega
  · omega
  · simp; omega
  · intro g cap w' hown' hgrow hat hlt
    have hb : Below base X w' := own_step (hown.alloc _) ((Below.refl _ _).alloc hbase _) (by simp; omega) hgrow
    exact h g cap w' (by simpa using hown') hb (Nat.le_trans hbase hb.size)
end Go.Proofs.Ythjfgibflbbgmaa.ints
