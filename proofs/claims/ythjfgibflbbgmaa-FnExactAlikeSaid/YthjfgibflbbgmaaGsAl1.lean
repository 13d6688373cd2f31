/-
  Lists of numbers compared, by both.
-/
import Derived.Test.YthjfgibflbbgmaaGsPl7
import Derived.Deep.RegionHeld3
namespace Go.Proofs.Ythjfgibflbbgmaa.gs
open Go.RowKit
open kinds ints obj ref gr cl

set_option maxHeartbeats 1000000 in
theorem l7ints_any (w : World) (a b : Option Addr) (ca cb : Nat) (xs ys : List Int) (hn : xs.length ≤ 1048576) (ha : Nums w a xs) (hb : Nums w b ys) :
    Calls Try.prog 78 #[.slice a xs.length ca, .slice b ys.length cb] w fun e w' => e = .returned (.bool (decide (xs = ys))) ∧ Below w.heap.size w w' := by
  have HA : Hid (Nums w a xs) := ha
  have HB : Hid (Nums w b ys) := hb
  clear ha hb
  by_cases hl : xs.length = ys.length
  · have hne : ((xs.length : Int) != (ys.length : Int)) = false := by rw [hl]; simp
    have HL : Hid (xs.length = ys.length) := hl
    clear hl
    go_enter Try.func78, Try.ntmps78
    go_wp2
    go_loopw [5] (fun i wr => ∃ k : Nat, k ≤ xs.length ∧ i = .int .i64 (k : Int) ∧ Below w.heap.size w wr ∧ xs.take k = ys.take k) (fun i _ => xs.length - (intOf i).toNat)
    case atStart => exact ⟨0, Nat.zero_le _, rfl, Below.refl _ _, by simp⟩
    case round =>
      obtain ⟨k, hk, rfl, hb, htk⟩ := hrel
      have HTK : Hid (xs.take k = ys.take k) := htk
      have HW : Hid (Below w.heap.size w wr) := hb
      clear hb htk
      by_cases hlt : k < xs.length
      · have hky : k < ys.length := by have := HL.out; omega
        have hlti : (k : Int) < (xs.length : Int) := by omega
        have hltj : (k : Int) < (ys.length : Int) := by omega
        have hk0 : (0 : Int) ≤ (k : Int) := by omega
        obtain ⟨b5, o5, rfl, e5⟩ := HA.out.below HW.out k hlt
        obtain ⟨b6, o6, rfl, e6⟩ := HB.out.below HW.out k hky
        have HST : Hid (xs[k] = ys[k] → xs.take (k + 1) = ys.take (k + 1)) := fun e => by rw [List.take_succ_eq_append_getElem hlt, List.take_succ_eq_append_getElem hky, HTK.out, e]
        have HNE : Hid (xs[k] ≠ ys[k] → decide (xs = ys) = false) := fun e => decide_eq_false (fun h => e (by simp [h]))
        generalize xs[k] = x at e5 HST HNE
        generalize ys[k] = y at e6 HST HNE
        have HBd : Hid (Below w.heap.size w wr.drew) := HW.out.drew
        by_cases hxy : x = y
        · have HS1 : Hid (xs.take (k + 1) = ys.take (k + 1)) := HST.out hxy
          subst hxy
          have hq : (x != x) = false := by simp
          go_wp2
          go_region
          all_goals
            go_wp2
            go_roundw
            case rel => exact ⟨k + 1, by omega, by go_num, HBd.out, HS1.out⟩
            case measure => simp [intOf]; omega
        · have hq : (x != y) = true := by simp [hxy]
          have HF := HNE.out hxy
          have HF : Hid (decide (xs = ys) = false) := HF
          clear hxy
          go_wp2
          go_region
          all_goals
            go_wp2
            go_ret
            exact ⟨by rw [HF.out]; rfl, HBd.out⟩
      · obtain rfl : k = xs.length := by omega
        have htk := HTK.out
        rw [List.take_length, List.take_of_length_le (by have := HL.out; omega)] at htk
        have HD : Hid (decide (xs = ys) = true) := decide_eq_true htk
        clear htk
        go_wp2
        go_ret
        exact ⟨by rw [HD.out]; rfl, HW.out⟩
  · have hne : ((xs.length : Int) != (ys.length : Int)) = true := by simp; omega
    have HD : Hid (decide (xs = ys) = false) := decide_eq_false (fun h => hl (by rw [h]))
    clear hl
    go_enter Try.func78, Try.ntmps78
    go_wp2
    go_ret
    exact ⟨by rw [HD.out]; rfl, Below.refl _ _⟩
set_option maxHeartbeats 1000000 in
theorem equal_any (w : World) (a b : Option Addr) (ca cb : Nat) (xs ys : List Int) (hn : xs.length ≤ 1048576) (ha : Nums w a xs) (hb : Nums w b ys) :
    Calls Try.prog 79 #[.slice a xs.length ca, .slice b ys.length cb] w fun e w' => e = .returned (.bool (decide (xs = ys))) ∧ Below w.heap.size w w' := by
  have HA : Hid (Nums w a xs) := ha
  have HB : Hid (Nums w b ys) := hb
  clear ha hb
  by_cases hl : xs.length = ys.length
  · have hne : ((xs.length : Int) != (ys.length : Int)) = false := by rw [hl]; simp
    have HL : Hid (xs.length = ys.length) := hl
    clear hl
    go_enter Try.func79, Try.ntmps79
    go_wp2
    go_loopw [13] (fun i wr => ∃ k : Nat, k ≤ xs.length ∧ i = .int .i64 (k : Int) ∧ Below w.heap.size w wr ∧ xs.take k = ys.take k) (fun i _ => xs.length - (intOf i).toNat)
    case atStart => exact ⟨0, Nat.zero_le _, rfl, Below.refl _ _, by simp⟩
    case round =>
      obtain ⟨k, hk, rfl, hb, htk⟩ := hrel
      have HTK : Hid (xs.take k = ys.take k) := htk
      have HW : Hid (Below w.heap.size w wr) := hb
      clear hb htk
      by_cases hlt : k < xs.length
      · have hky : k < ys.length := by have := HL.out; omega
        have hlti : (k : Int) < (xs.length : Int) := by omega
        have hltj : (k : Int) < (ys.length : Int) := by omega
        have hk0 : (0 : Int) ≤ (k : Int) := by omega
        obtain ⟨b5, o5, rfl, e5⟩ := HA.out.below HW.out k hlt
        obtain ⟨b6, o6, rfl, e6⟩ := HB.out.below HW.out k hky
        have HST : Hid (xs[k] = ys[k] → xs.take (k + 1) = ys.take (k + 1)) := fun e => by rw [List.take_succ_eq_append_getElem hlt, List.take_succ_eq_append_getElem hky, HTK.out, e]
        have HNE : Hid (xs[k] ≠ ys[k] → decide (xs = ys) = false) := fun e => decide_eq_false (fun h => e (by simp [h]))
        generalize xs[k] = x at e5 HST HNE
        generalize ys[k] = y at e6 HST HNE
        have HBd : Hid (Below w.heap.size w wr.drew) := HW.out.drew
        by_cases hxy : x = y
        · have HS1 : Hid (xs.take (k + 1) = ys.take (k + 1)) := HST.out hxy
          subst hxy
          have hq : (x != x) = false := by simp
          go_wp2
          go_region
          all_goals
            go_wp2
            go_roundw
            case rel => exact ⟨k + 1, by omega, by go_num, HBd.out, HS1.out⟩
            case measure => simp [intOf]; omega
        · have hq : (x != y) = true := by simp [hxy]
          have HF := HNE.out hxy
          have HF : Hid (decide (xs = ys) = false) := HF
          clear hxy
          go_wp2
          go_region
          all_goals
            go_wp2
            go_ret
            exact ⟨by rw [HF.out]; rfl, HBd.out⟩
      · obtain rfl : k = xs.length := by omega
        have htk := HTK.out
        rw [List.take_length, List.take_of_length_le (by have := HL.out; omega)] at htk
        have HD : Hid (decide (xs = ys) = true) := decide_eq_true htk
        clear htk
        go_wp2
        go_ret
        exact ⟨by rw [HD.out]; rfl, HW.out⟩
  · have hne : ((xs.length : Int) != (ys.length : Int)) = true := by simp; omega
    have HD : Hid (decide (xs = ys) = false) := decide_eq_false (fun h => hl (by rw [h]))
    clear hl
    go_enter Try.func79, Try.ntmps79
    go_wp2
    go_ret
    exact ⟨by rw [HD.out]; rfl, Below.refl _ _⟩
end Go.Proofs.Ythjfgibflbbgmaa.gs
