/-
  A slice of texts: what it reads as; its size, its copy, and that it is like itself; whether its texts are right types, by the program and by the specification.
-/
import Derived.Test.YtnacdfoejmjlgaaKinds
import Derived.Below
import Derived.Outline
namespace Go.Proofs.Ytnacdfoejmjlgaa.kinds
open Go.RowKit

def Strs (w : World) (a : Option Addr) (xs : List ByteArray) : Prop :=
  ∀ i (hi : i < xs.length), ∃ b off : Nat, a = some ⟨b, off, none⟩ ∧ w.cell? ⟨b, off + i, none⟩ = some (.string xs[i])
theorem Strs.below {w w' : World} {a : Option Addr} {xs : List ByteArray} (h : Strs w a xs) (hb : Below w.heap.size w w') : Strs w' a xs := fun i hi => by
  obtain ⟨b, off, e, h0⟩ := h i hi
  exact ⟨b, off, e, by rw [hb.cell (p := ⟨b, off + i, none⟩) (World.block_lt_of_cell? w _ h0)]; exact h0⟩
/-- Cells that are there and may be written. -/
def SRow (w : World) (g m : Nat) : Prop := ∀ j, j < m → (∃ v, w.cell? ⟨g, j, none⟩ = some v) ∧ w.frozen? ⟨g, j, none⟩ = false
theorem SRow.set {w : World} {g m : Nat} (h : SRow w g m) (a : Addr) (x : Value) : SRow (w.setCell a x) g m := fun j hj => by
  obtain ⟨⟨v, hv⟩, hf⟩ := h j hj
  refine ⟨?_, by rw [World.frozen?_setCell]; exact hf⟩
  by_cases e : a = ⟨g, j, none⟩
  · subst e; exact ⟨x, World.cell?_setCell_same _ _ _ hv⟩
  · exact ⟨v, by rw [World.cell?_setCell_other _ _ _ _ e]; exact hv⟩
theorem SRow.grown {w w' : World} {g m : Nat} (h : SRow w g m) (hb : Below w.heap.size w w') : SRow w' g m := fun j hj => by
  obtain ⟨⟨v, hv⟩, hf⟩ := h j hj
  have hlt := World.block_lt_of_cell? w _ hv
  exact ⟨⟨v, by rw [hb.cell (p := ⟨g, j, none⟩) hlt]; exact hv⟩, by rw [hb.frozen (p := ⟨g, j, none⟩) hlt]; exact hf⟩

def typesOk (xs : List ByteArray) : Bool := decide (1 ≤ xs.length) && decide (xs.length ≤ 12) && xs.all isType
theorem types_take (xs : List ByteArray) (k : Nat) (hk : k < xs.length) : (xs.take (k + 1)).all isType = ((xs.take k).all isType && isType xs[k]) := by
  rw [List.take_succ_eq_append_getElem hk, List.all_append]
  simp
theorem types_no {xs : List ByteArray} {k : Nat} (h : (xs.take k).all isType = false) : typesOk xs = false := by
  unfold typesOk
  have : xs.all isType = false := by
    rw [← List.take_append_drop k xs, List.all_append, h]
    rfl
  rw [this]
  simp
theorem runOf_zero (s : ByteArray) : (runOf s == 0) = !isType s := by
  unfold runOf
  cases h : isType s with
  | true =>
    have := isType_size h
    rw [if_pos rfl]
    simp
    omega
  | false => simp
set_option maxHeartbeats 1000000 in
theorem spec_types (w : World) (a : Option Addr) (cap : Nat) (xs : List ByteArray) (hn : xs.length ≤ 1048576) (hl : Strs w a xs) (hz : ∀ i (hi : i < xs.length), xs[i].size ≤ 1048576) :
    Calls Try.prog 32 #[.slice a xs.length cap] w fun e w' => e = .returned (.bool (typesOk xs)) ∧ w = w' := by
  have HL : Hid (Strs w a xs) := hl
  have HZ : Hid (∀ i (hi : i < xs.length), xs[i].size ≤ 1048576) := hz
  have HI : Hid (∀ w, Calls _ _ _ w _) := fun w => kIn_any w (xs.length : Int) 1 12
  clear hl hz
  by_cases hr : 1 ≤ xs.length ∧ xs.length ≤ 12
  · have HT : Hid (xs.all isType = typesOk xs) := by
      show xs.all isType = typesOk xs
      unfold typesOk
      rw [decide_eq_true hr.1, decide_eq_true hr.2]
      simp
    rw [show (decide ((1 : Int) ≤ (xs.length : Int)) && decide ((xs.length : Int) ≤ 12)) = true by simp; omega] at HI
    clear hr
    go_enter Try.func32, Try.ntmps32
    go_wp2_with fail
    refine (HI.out _).mono ?_
    rintro e w' ⟨rfl, rfl⟩
    go_wp2
    go_loop [3] (fun i => ∃ k : Nat, k ≤ xs.length ∧ i = .int .i64 k ∧ (xs.take k).all isType = true) (fun i => xs.length - (intOf i).toNat)
    case atStart => exact ⟨0, Nat.zero_le _, rfl, rfl⟩
    case round =>
      obtain ⟨k, hk, rfl, hall⟩ := hrel
      by_cases hlt : k < xs.length
      · obtain ⟨b, off, rfl, c0⟩ := HL.out k hlt
        have HA : Hid ((xs.take (k + 1)).all isType = isType xs[k]) := by
          show (xs.take (k + 1)).all isType = isType xs[k]
          rw [types_take xs k hlt, hall, Bool.true_and]
        have HK : Hid (∀ w, Calls _ _ _ w _) := fun w => l3Type_any xs[k] w (HZ.out k hlt)
        clear hall
        generalize xs[k] = s at c0 HA HK
        cases hs : isType s with
        | true =>
          rw [hs] at HK HA
          go_wp2_with fail
          refine (HK.out _).mono ?_
          rintro e w' ⟨rfl, rfl⟩
          go_wp2
          exact ⟨⟨k + 1, by omega, by go_num, HA.out⟩, by simp [intOf]; omega⟩
        | false =>
          rw [hs] at HK HA
          have HN : Hid (typesOk xs = false) := types_no HA.out
          go_wp2_with fail
          refine (HK.out _).mono ?_
          rintro e w' ⟨rfl, rfl⟩
          go_wp2
          go_ret
          exact ⟨by rw [HN.out]; rfl, rfl⟩
      · rw [List.take_of_length_le (by omega)] at hall
        have HN : Hid (typesOk xs = true) := by
          show typesOk xs = true
          rw [← HT.out]; exact hall
        clear hall
        go_wp2
        go_ret
        exact ⟨by rw [HN.out]; rfl, rfl⟩
  · have HT : Hid (typesOk xs = false) := by
      show typesOk xs = false
      unfold typesOk
      have : (decide (1 ≤ xs.length) && decide (xs.length ≤ 12)) = false := by simp; omega
      rw [this]; rfl
    rw [show (decide ((1 : Int) ≤ (xs.length : Int)) && decide ((xs.length : Int) ≤ 12)) = false by simp; omega] at HI
    clear hr
    go_enter Try.func32, Try.ntmps32
    go_wp2_with fail
    refine (HI.out _).mono ?_
    rintro e w' ⟨rfl, rfl⟩
    go_wp2
    go_ret
    exact ⟨by rw [HT.out]; rfl, rfl⟩
set_option maxHeartbeats 1000000 in
theorem impl_types (w : World) (a : Option Addr) (cap : Nat) (xs : List ByteArray) (hn : xs.length ≤ 1048576) (hl : Strs w a xs) (hz : ∀ i (hi : i < xs.length), xs[i].size ≤ 1048576) :
    Calls Try.prog 29 #[.slice a xs.length cap] w fun e w' => e = .returned (.bool (typesOk xs)) ∧ w = w' := by
  have HL : Hid (Strs w a xs) := hl
  have HZ : Hid (∀ i (hi : i < xs.length), xs[i].size ≤ 1048576) := hz
  clear hl hz
  by_cases hr : 1 ≤ xs.length ∧ xs.length ≤ 12
  · have HT : Hid (xs.all isType = typesOk xs) := by
      show xs.all isType = typesOk xs
      unfold typesOk
      rw [decide_eq_true hr.1, decide_eq_true hr.2]
      simp
    have g1 : ¬ (xs.length : Int) < 1 := by omega
    have g2 : ¬ (12 : Int) < (xs.length : Int) := by omega
    clear hr
    go_enter Try.func29, Try.ntmps29
    go_wp2
    go_loop [15] (fun i => ∃ k : Nat, k ≤ xs.length ∧ i = .int .i64 k ∧ (xs.take k).all isType = true) (fun i => xs.length - (intOf i).toNat)
    case atStart => exact ⟨0, Nat.zero_le _, rfl, rfl⟩
    case round =>
      obtain ⟨k, hk, rfl, hall⟩ := hrel
      by_cases hlt : k < xs.length
      · obtain ⟨b, off, rfl, c0⟩ := HL.out k hlt
        have HA : Hid ((xs.take (k + 1)).all isType = isType xs[k]) := by
          show (xs.take (k + 1)).all isType = isType xs[k]
          rw [types_take xs k hlt, hall, Bool.true_and]
        have HK : Hid (∀ w, Calls _ _ _ w _) := fun w => impl_run xs[k] w (HZ.out k hlt)
        have hz0 := runOf_zero xs[k]
        clear hall
        generalize xs[k] = s at c0 HA HK hz0
        generalize runOf s = n at HK hz0
        cases hs : isType s with
        | true =>
          rw [hs] at HA hz0
          have e1 : (n == 0) = false := hz0
          go_wp2_with fail
          refine (HK.out _).mono ?_
          rintro e w' ⟨rfl, rfl⟩
          go_wp2
          exact ⟨⟨k + 1, by omega, by go_num, HA.out⟩, by simp [intOf]; omega⟩
        | false =>
          rw [hs] at HA hz0
          have e1 : (n == 0) = true := hz0
          have HN : Hid (typesOk xs = false) := types_no HA.out
          go_wp2_with fail
          refine (HK.out _).mono ?_
          rintro e w' ⟨rfl, rfl⟩
          go_wp2
          go_ret
          exact ⟨by rw [HN.out]; rfl, rfl⟩
      · rw [List.take_of_length_le (by omega)] at hall
        have HN : Hid (typesOk xs = true) := by
          show typesOk xs = true
          rw [← HT.out]; exact hall
        clear hall
        go_wp2
        go_ret
        exact ⟨by rw [HN.out]; rfl, rfl⟩
  · have HT : Hid (typesOk xs = false) := by
      show typesOk xs = false
      unfold typesOk
      have : (decide (1 ≤ xs.length) && decide (xs.length ≤ 12)) = false := by simp; omega
      rw [this]; rfl
    by_cases h1 : 1 ≤ xs.length
    · have g1 : ¬ (xs.length : Int) < 1 := by omega
      have g2 : (12 : Int) < (xs.length : Int) := by omega
      go_enter Try.func29, Try.ntmps29
      go_wp2
      go_ret
      exact ⟨by rw [HT.out]; rfl, rfl⟩
    · have g1 : (xs.length : Int) < 1 := by omega
      go_enter Try.func29, Try.ntmps29
      go_wp2
      go_ret
      exact ⟨by rw [HT.out]; rfl, rfl⟩
end Go.Proofs.Ytnacdfoejmjlgaa.kinds
