/-
  A slice of texts: what it reads as; its size, its copy, and that it is like itself; whether its texts are right types, by the program and by the specification.
-/
import Derived.Test.YthjfgibflbbgmaaKinds
import Derived.Below
import Derived.Outline
namespace Go.Proofs.Ythjfgibflbbgmaa.kinds
open Go.RowKit

def Strs (w : World) (a : Option Addr) (xs : List ByteArray) : Prop :=
  ∀ i (hi : i < xs.length), ∃ b off : Nat, a = some ⟨b, off, none⟩ ∧ w.cell? ⟨b, off + i, none⟩ = some (.string xs[i])
theorem Strs.below {w w' : World} {a : Option Addr} {xs : List ByteArray} (h : Strs w a xs) (hb : Below w.heap.size w w') : Strs w' a xs := fun i hi => by
  obtain ⟨b, off, e, h0⟩ := h i hi
  exact ⟨b, off, e, by rw [hb.cell (p := ⟨b, off + i, none⟩) (World.block_lt_of_cell? w _ h0)]; exact h0⟩
/-- Cells that are there and may be written. -/
def SRow (w : World) (g m : Nat) : Prop := ∀ j, j < m → (∃ v, w.cell? ⟨g, j, none⟩ = some v) ∧ w.frozen? ⟨g, j, none⟩ = false
theorem SRow.set {w : World} {g m : Nat} (h : SRow w g m) (a : Addr) (x : Value) : SRow (w.setCell a x) g m := fun j hj => by
  obtain ⟨⟨v, hv⟩, hf⟩ := h j hj
  refine ⟨?_, by rw [World.frozen?_setCell]; exact hf⟩
  by_cases e : a = ⟨g, j, none⟩
  · subst e; exact ⟨x, World.cell?_setCell_same _ _ _ hv⟩
  · exact ⟨v, by rw [World.cell?_setCell_other _ _ _ _ e]; exact hv⟩
theorem SRow.grown {w w' : World} {g m : Nat} (h : SRow w g m) (hb : Below w.heap.size w w') : SRow w' g m := fun j hj => by
  obtain ⟨⟨v, hv⟩, hf⟩ := h j hj
  have hlt := World.block_lt_of_cell? w _ hv
  exact ⟨⟨v, by rw [hb.cell (p := ⟨g, j, none⟩) hlt]; exact hv⟩, by rw [hb.frozen (p := ⟨g, j, none⟩) hlt]; exact hf⟩

set_option maxHeartbeats 1000000 in
theorem szStringS_any (w : World) (a : Option Addr) (cap : Nat) (xs : List ByteArray) (left : Int) (h0 : 0 ≤ left) (h1 : left ≤ 1048576) (hm : xs.length ≤ maxLen) (hl : Strs w a xs) (hz : ∀ i (hi : i < xs.length), xs[i].size ≤ maxLen) :
    Calls Try.prog 10 #[.slice a xs.length cap, .int .i64 left] w fun e w' => ∃ r : Int, e = .returned (.int .i64 r) ∧ -1 ≤ r ∧ r ≤ 1048576 ∧ (0 ≤ r → xs.length ≤ 1048576 ∧ ∀ i (hi : i < xs.length), xs[i].size ≤ 1048576) ∧ w = w' := by
  unfold maxLen at hm
  have HL : Hid (Strs w a xs) := hl
  have HZ : Hid (∀ i (hi : i < xs.length), xs[i].size ≤ maxLen) := hz
  clear hl hz
  by_cases hn1 : left - (xs.length : Int) < 0
  · go_enter Try.func10, Try.ntmps10
    go_wp2
    go_ret
    exact ⟨-1, rfl, by omega, by omega, by omega, rfl⟩
  · go_enter Try.func10, Try.ntmps10
    go_wp2
    go_loop [1, 5] (fun r i => ∃ (k : Nat) (x : Int), k ≤ xs.length ∧ i = .int .i64 k ∧ r = .int .i64 x ∧ 0 ≤ x ∧ x ≤ 1048576 ∧ (∀ j (hj : j < xs.length), j < k → xs[j].size ≤ 1048576)) (fun _ i => xs.length - (intOf i).toNat)
    case atStart => exact ⟨0, _, Nat.zero_le _, rfl, rfl, by omega, by omega, fun j hj h => by omega⟩
    case round =>
      obtain ⟨k, x, hk, rfl, rfl, hx0, hx1, hall⟩ := hrel
      have HA : Hid (∀ j (hj : j < xs.length), j < k → xs[j].size ≤ 1048576) := hall
      clear hall
      by_cases hlt : k < xs.length
      · obtain ⟨b, off, rfl, c0⟩ := HL.out k hlt
        have hzk := HZ.out k hlt
        generalize hxk : xs[k] = s at c0 hzk
        have HXK : Hid (xs[k] = s) := hxk
        unfold maxLen at hzk
        clear hxk
        by_cases hneg : x - (s.size : Int) < 0
        · go_wp2
          go_ret
          exact ⟨-1, rfl, by omega, by omega, by omega, rfl⟩
        · go_wp2
          refine ⟨⟨k + 1, _, by omega, by go_num, rfl, by omega, by omega, fun j hj hjk => ?_⟩, by simp [intOf]; omega⟩
          by_cases hjl : j < k
          · exact HA.out j hj hjl
          · have : j = k := by omega
            subst this
            rw [HXK.out]
            omega
      · go_wp2
        go_ret
        exact ⟨x, rfl, by omega, by omega, fun _ => ⟨by omega, fun i hi => HA.out i hi (by omega)⟩, rfl⟩
theorem infoStr : (Try.prog.info? 9).map (fun i => (i.zero, i.size, i.bytes)) = some (some (.string ⟨#[]⟩), 1, 16) := by kernel_rfl
def madeStrs (w : World) (n : Nat) : World := w.alloc (.cells (madeCells #[.string ⟨#[]⟩] (n * 1)) 9)
theorem run_strs (n : Nat) (h : n ≤ 1048576) (w : World) : (Instr.makeSlice 22 (.int .i64 (n : Int)) (.int .i64 (n : Int))).run Try.prog w = .ok (.slice (some ⟨w.heap.size, 0, none⟩) n n) (madeStrs w n) := by
  obtain ⟨i, hi, hzz⟩ := Option.map_eq_some_iff.1 infoStr
  simp only [Prod.mk.injEq] at hzz
  obtain ⟨hz, hs, hb⟩ := hzz
  have hr := run_make (P := Try.prog) w 22 9 i _ Try.underlying22 hi hz .i64 .i64 n n (by omega) (Int.le_refl _) (by rw [hb]; omega) (by omega)
  simp only [Int.toNat_natCast, hs] at hr
  exact hr
theorem madeStrs_below (w : World) (n : Nat) : Below w.heap.size w (madeStrs w n) := (Below.refl _ _).alloc (Nat.le_refl _) _
theorem madeStrs_size (w : World) (n : Nat) : (madeStrs w n).heap.size = w.heap.size + 1 := by unfold madeStrs; simp
theorem madeStrs_row (w : World) (n : Nat) : SRow (madeStrs w n) w.heap.size n := fun j hj => by
  unfold madeStrs
  refine ⟨?_, World.frozen?_alloc_new _ _ _ _⟩
  rw [World.cell?_alloc_new]
  exact ⟨_, Array.getElem?_eq_getElem (by rw [size_madeCells]; omega)⟩
set_option maxHeartbeats 1000000 in
theorem toStringS_any (w : World) (a : Option Addr) (cap : Nat) (xs : List ByteArray) (hn : xs.length ≤ 1048576) (hl : Strs w a xs) :
    Calls Try.prog 13 #[.slice a xs.length cap] w fun e w' => ∃ g : Nat, e = .returned (.slice (some ⟨g, 0, none⟩) xs.length xs.length) ∧ w.heap.size ≤ g ∧ g < w'.heap.size ∧ Strs w' (some ⟨g, 0, none⟩) xs ∧ SRow w' g xs.length ∧ Below w.heap.size w w' := by
  have HL : Hid (Strs w a xs) := hl
  have hmk := run_strs xs.length hn w
  have HB0 : Hid (Below w.heap.size w (madeStrs w xs.length)) := madeStrs_below w xs.length
  have HR0 : Hid (SRow (madeStrs w xs.length) w.heap.size xs.length) := madeStrs_row w xs.length
  have HS0 : Hid ((madeStrs w xs.length).heap.size = w.heap.size + 1) := madeStrs_size w xs.length
  generalize madeStrs w xs.length = w1 at hmk HB0 HR0 HS0
  clear hl
  go_enter Try.func13, Try.ntmps13
  go_wp2
  go_loopw [4] (fun i wr => ∃ k : Nat, k ≤ xs.length ∧ i = .int .i64 k ∧ (∀ j (hj : j < xs.length), j < k → wr.cell? ⟨w.heap.size, j, none⟩ = some (.string xs[j])) ∧ SRow wr w.heap.size xs.length ∧ Below w.heap.size w wr ∧ w.heap.size < wr.heap.size) (fun i _ => xs.length - (intOf i).toNat)
  case atStart => exact ⟨0, Nat.zero_le _, rfl, fun j hj h => by omega, HR0.out, HB0.out, by have := HS0.out; omega⟩
  case round =>
    obtain ⟨k, hk, rfl, hat, hrow, hb, hsz⟩ := hrel
    have HA : Hid (∀ j (hj : j < xs.length), j < k → wr.cell? ⟨w.heap.size, j, none⟩ = some (.string xs[j])) := hat
    have HR : Hid (SRow wr w.heap.size xs.length) := hrow
    have HB : Hid (Below w.heap.size w wr) := hb
    clear hat hrow hb
    by_cases hlt : k < xs.length
    · obtain ⟨b, off, rfl, c0⟩ := HL.out.below HB.out k hlt
      obtain ⟨x, hxk⟩ : ∃ x, x = xs[k] := ⟨_, rfl⟩
      rw [← hxk] at c0
      have HXK : Hid (x = xs[k]) := hxk
      obtain ⟨⟨v0, d0⟩, f0⟩ := HR.out k hlt
      have D0 : Hid (wr.cell? ⟨w.heap.size, k, none⟩ = some v0) := d0
      clear hxk hmk
      go_wp2
      refine ⟨⟨k + 1, by omega, by go_num, ?_, HR.out.set _ _, HB.out.setCell (p := ⟨w.heap.size, k, none⟩) (Nat.le_refl _) _, by simpa using hsz⟩, by simp [intOf]; omega⟩
      intro j hj hjk
      by_cases hjl : j < k
      · rw [World.cell?_setCell_other _ _ _ _ (fun q => by have := congrArg Addr.off q; simp at this; omega)]
        exact HA.out j hj hjl
      · have hjk' : j = k := by omega
        subst hjk'
        rw [World.cell?_setCell_same _ _ _ D0.out, HXK.out]
    · go_wp2
      go_ret
      exact ⟨w.heap.size, rfl, Nat.le_refl _, hsz, fun i hi => ⟨w.heap.size, 0, rfl, by rw [Nat.zero_add]; exact HA.out i hi (by omega)⟩, HR.out, HB.out⟩
theorem eqStringS_same (w : World) (a b : Option Addr) (ca cb : Nat) (xs : List ByteArray) (hn : xs.length ≤ 1048576) (ha : Strs w a xs) (hb : Strs w b xs) :
    Calls Try.prog 17 #[.slice a xs.length ca, .slice b xs.length cb] w fun e w' => e = .returned (.bool true) ∧ Below w.heap.size w w' := by
  have HA : Hid (Strs w a xs) := ha
  have HBb : Hid (Strs w b xs) := hb
  clear ha hb
  have hne : ((xs.length : Int) != (xs.length : Int)) = false := by simp
  go_enter Try.func17, Try.ntmps17
  go_wp2
  go_loopw [5] (fun i wr => ∃ k : Nat, k ≤ xs.length ∧ i = .int .i64 k ∧ Below w.heap.size w wr) (fun i _ => xs.length - (intOf i).toNat)
  case atStart => exact ⟨0, Nat.zero_le _, rfl, Below.refl _ _⟩
  case round =>
    obtain ⟨k, hk, rfl, hb⟩ := hrel
    have HB : Hid (Below w.heap.size w wr) := hb
    clear hb
    by_cases hlt : k < xs.length
    · obtain ⟨b1, o1, rfl, c0⟩ := HA.out.below HB.out k hlt
      obtain ⟨b2, o2, rfl, d0⟩ := HBb.out.below HB.out k hlt
      generalize xs[k] = x at c0 d0
      have hx : (x.toList == x.toList) = true := by simp
      have hlt' : (k : Int) < (xs.length : Int) := by omega
      have HD : Hid (Below w.heap.size w wr.drew) := HB.out.drew
      go_wp2
      go_region
      all_goals
        go_wp2
        go_roundw
        case rel => exact ⟨k + 1, by omega, by go_num, HD.out⟩
        case measure => simp [intOf]; omega
    · go_wp2
      go_ret
      exact ⟨rfl, HB.out⟩
def typesOk (xs : List ByteArray) : Bool := decide (1 ≤ xs.length) && decide (xs.length ≤ 12) && xs.all isType
theorem types_take (xs : List ByteArray) (k : Nat) (hk : k < xs.length) : (xs.take (k + 1)).all isType = ((xs.take k).all isType && isType xs[k]) := by
  rw [List.take_succ_eq_append_getElem hk, List.all_append]
  simp
theorem types_no {xs : List ByteArray} {k : Nat} (h : (xs.take k).all isType = false) : typesOk xs = false := by
  unfold typesOk
  have : xs.all isType = false := by
    rw [← List.take_append_drop k xs, List.all_append, h]
    rfl
  rw [this]
  simp
theorem runOf_zero (s : ByteArray) : (runOf s == 0) = !isType s := by
  unfold runOf
  cases h : isType s with
  | true =>
    have := isType_size h
    rw [if_pos rfl]
    simp
    omega
  | false => simp
set_option maxHeartbeats 1000000 in
theorem spec_types (w : World) (a : Option Addr) (cap : Nat) (xs : List ByteArray) (hn : xs.length ≤ 1048576) (hl : Strs w a xs) (hz : ∀ i (hi : i < xs.length), xs[i].size ≤ 1048576) :
    Calls Try.prog 62 #[.slice a xs.length cap] w fun e w' => e = .returned (.bool (typesOk xs)) ∧ w = w' := by
  have HL : Hid (Strs w a xs) := hl
  have HZ : Hid (∀ i (hi : i < xs.length), xs[i].size ≤ 1048576) := hz
  have HI : Hid (∀ w, Calls _ _ _ w _) := fun w => kIn_any w (xs.length : Int) 1 12
  clear hl hz
  by_cases hr : 1 ≤ xs.length ∧ xs.length ≤ 12
  · have HT : Hid (xs.all isType = typesOk xs) := by
      show xs.all isType = typesOk xs
      unfold typesOk
      rw [decide_eq_true hr.1, decide_eq_true hr.2]
      simp
    rw [show (decide ((1 : Int) ≤ (xs.length : Int)) && decide ((xs.length : Int) ≤ 12)) = true by simp; omega] at HI
    clear hr
    go_enter Try.func62, Try.ntmps62
    go_wp2_with fail
    refine (HI.out _).mono ?_
    rintro e w' ⟨rfl, rfl⟩
    go_wp2
    go_loop [3] (fun i => ∃ k : Nat, k ≤ xs.length ∧ i = .int .i64 k ∧ (xs.take k).all isType = true) (fun i => xs.length - (intOf i).toNat)
    case atStart => exact ⟨0, Nat.zero_le _, rfl, rfl⟩
    case round =>
      obtain ⟨k, hk, rfl, hall⟩ := hrel
      by_cases hlt : k < xs.length
      · obtain ⟨b, off, rfl, c0⟩ := HL.out k hlt
        have HA : Hid ((xs.take (k + 1)).all isType = isType xs[k]) := by
          show (xs.take (k + 1)).all isType = isType xs[k]
          rw [types_take xs k hlt, hall, Bool.true_and]
        have HK : Hid (∀ w, Calls _ _ _ w _) := fun w => l3Type_any xs[k] w (HZ.out k hlt)
        clear hall
        generalize xs[k] = s at c0 HA HK
        cases hs : isType s with
        | true =>
          rw [hs] at HK HA
          go_wp2_with fail
          refine (HK.out _).mono ?_
          rintro e w' ⟨rfl, rfl⟩
          go_wp2
          exact ⟨⟨k + 1, by omega, by go_num, HA.out⟩, by simp [intOf]; omega⟩
        | false =>
          rw [hs] at HK HA
          have HN : Hid (typesOk xs = false) := types_no HA.out
          go_wp2_with fail
          refine (HK.out _).mono ?_
          rintro e w' ⟨rfl, rfl⟩
          go_wp2
          go_ret
          exact ⟨by rw [HN.out]; rfl, rfl⟩
      · rw [List.take_of_length_le (by omega)] at hall
        have HN : Hid (typesOk xs = true) := by
          show typesOk xs = true
          rw [← HT.out]; exact hall
        clear hall
        go_wp2
        go_ret
        exact ⟨by rw [HN.out]; rfl, rfl⟩
  · have HT : Hid (typesOk xs = false) := by
      show typesOk xs = false
      unfold typesOk
      have : (decide (1 ≤ xs.length) && decide (xs.length ≤ 12)) = false := by simp; omega
      rw [this]; rfl
    rw [show (decide ((1 : Int) ≤ (xs.length : Int)) && decide ((xs.length : Int) ≤ 12)) = false by simp; omega] at HI
    clear hr
    go_enter Try.func62, Try.ntmps62
    go_wp2_with fail
    refine (HI.out _).mono ?_
    rintro e w' ⟨rfl, rfl⟩
    go_wp2
    go_ret
    exact ⟨by rw [HT.out]; rfl, rfl⟩
set_option maxHeartbeats 1000000 in
theorem impl_types (w : World) (a : Option Addr) (cap : Nat) (xs : List ByteArray) (hn : xs.length ≤ 1048576) (hl : Strs w a xs) (hz : ∀ i (hi : i < xs.length), xs[i].size ≤ 1048576) :
    Calls Try.prog 58 #[.slice a xs.length cap] w fun e w' => e = .returned (.bool (typesOk xs)) ∧ w = w' := by
  have HL : Hid (Strs w a xs) := hl
  have HZ : Hid (∀ i (hi : i < xs.length), xs[i].size ≤ 1048576) := hz
  clear hl hz
  by_cases hr : 1 ≤ xs.length ∧ xs.length ≤ 12
  · have HT : Hid (xs.all isType = typesOk xs) := by
      show xs.all isType = typesOk xs
      unfold typesOk
      rw [decide_eq_true hr.1, decide_eq_true hr.2]
      simp
    have g1 : ¬ (xs.length : Int) < 1 := by omega
    have g2 : ¬ (12 : Int) < (xs.length : Int) := by omega
    clear hr
    go_enter Try.func58, Try.ntmps58
    go_wp2
    go_loop [15] (fun i => ∃ k : Nat, k ≤ xs.length ∧ i = .int .i64 k ∧ (xs.take k).all isType = true) (fun i => xs.length - (intOf i).toNat)
    case atStart => exact ⟨0, Nat.zero_le _, rfl, rfl⟩
    case round =>
      obtain ⟨k, hk, rfl, hall⟩ := hrel
      by_cases hlt : k < xs.length
      · obtain ⟨b, off, rfl, c0⟩ := HL.out k hlt
        have HA : Hid ((xs.take (k + 1)).all isType = isType xs[k]) := by
          show (xs.take (k + 1)).all isType = isType xs[k]
          rw [types_take xs k hlt, hall, Bool.true_and]
        have HK : Hid (∀ w, Calls _ _ _ w _) := fun w => impl_run xs[k] w (HZ.out k hlt)
        have hz0 := runOf_zero xs[k]
        clear hall
        generalize xs[k] = s at c0 HA HK hz0
        generalize runOf s = n at HK hz0
        cases hs : isType s with
        | true =>
          rw [hs] at HA hz0
          have e1 : (n == 0) = false := hz0
          go_wp2_with fail
          refine (HK.out _).mono ?_
          rintro e w' ⟨rfl, rfl⟩
          go_wp2
          exact ⟨⟨k + 1, by omega, by go_num, HA.out⟩, by simp [intOf]; omega⟩
        | false =>
          rw [hs] at HA hz0
          have e1 : (n == 0) = true := hz0
          have HN : Hid (typesOk xs = false) := types_no HA.out
          go_wp2_with fail
          refine (HK.out _).mono ?_
          rintro e w' ⟨rfl, rfl⟩
          go_wp2
          go_ret
          exact ⟨by rw [HN.out]; rfl, rfl⟩
      · rw [List.take_of_length_le (by omega)] at hall
        have HN : Hid (typesOk xs = true) := by
          show typesOk xs = true
          rw [← HT.out]; exact hall
        clear hall
        go_wp2
        go_ret
        exact ⟨by rw [HN.out]; rfl, rfl⟩
  · have HT : Hid (typesOk xs = false) := by
      show typesOk xs = false
      unfold typesOk
      have : (decide (1 ≤ xs.length) && decide (xs.length ≤ 12)) = false := by simp; omega
      rw [this]; rfl
    by_cases h1 : 1 ≤ xs.length
    · have g1 : ¬ (xs.length : Int) < 1 := by omega
      have g2 : (12 : Int) < (xs.length : Int) := by omega
      go_enter Try.func58, Try.ntmps58
      go_wp2
      go_ret
      exact ⟨by rw [HT.out]; rfl, rfl⟩
    · have g1 : (xs.length : Int) < 1 := by omega
      go_enter Try.func58, Try.ntmps58
      go_wp2
      go_ret
      exact ⟨by rw [HT.out]; rfl, rfl⟩
end Go.Proofs.Ythjfgibflbbgmaa.kinds
