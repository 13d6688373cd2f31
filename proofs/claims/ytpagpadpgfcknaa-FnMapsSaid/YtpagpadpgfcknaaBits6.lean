/-
  LinesOf, by the program and by the specification; nothing that was there is written.
-/
import Derived.Test.YtpagpadpgfcknaaBits5
import Derived.Test.YtpagpadpgfcknaaInts
namespace Go.Proofs.Ytpagpadpgfcknaa.lb
open Go.RowKit
open ints

def linesL (l : List UInt8) : Nat → List Int
  | 0 => []
  | k + 1 => linesL l k ++ (if bitAt l k = true then [(k : Int)] else [])
theorem linesL_le (l : List UInt8) (k : Nat) : (linesL l k).length ≤ k := by
  induction k with
  | zero => exact Nat.le_refl _
  | succ k ih => rw [linesL, List.length_append]; split <;> simp <;> omega
def linesOf (m : ByteArray) : List Int := if mapOk m = true then linesL m.data.toList 128 else []
set_option maxHeartbeats 2000000 in
theorem impl_lines (m : ByteArray) (w : World) :
    Calls Try.prog 9 #[.string m] w fun e w' => ∃ v, e = .returned v ∧ w'.ownsRow w.heap.size 2 1 v (linesOf m).length ((linesOf m).map (Value.int .i64)) ∧ Below w.heap.size w w' := by
  have HRM : Hid (∀ w, _) := fun w => readMap_any m w
  have hal := arrOf_length m
  cases hm : mapOk m with
  | false =>
    rw [hm] at HRM
    have HO : Hid (linesOf m = []) := by show linesOf m = []; rw [linesOf, hm]; rfl
    clear hm
    generalize arrOf m = x at HRM hal
    go_enter Try.func9, Try.ntmps9
    go_wp2_with fail
    refine (HRM.out _).mono ?_
    rintro e w1 ⟨rfl, hb1⟩
    go_wp2_with (refine wpList_storeNew _ rfl _ _ rfl rfl x rfl hal ?_)
    go_ret
    exact ⟨_, rfl, by rw [HO.out]; exact World.ownsRow_nil _ _ _ _, hb1.alloc hb1.size _⟩
  | true =>
    rw [hm] at HRM
    have HO : Hid (linesOf m = linesL m.data.toList 128) := by show linesOf m = _; rw [linesOf, hm]; rfl
    have hms := mapOk_size hm
    rw [arrOf, if_pos hms] at HRM hal
    clear hm
    have HAS : Hid (∀ n : Nat, n < 128 → ∀ w, Calls Try.prog 26 #[.agg (cs m.data.toList), .int .i64 (n : Int)] w fun e w' => e = .returned (.bool (bitAt m.data.toList n)) ∧ Below w.heap.size w w') := fun n hn w => has_any _ hal n hn w
    generalize m.data.toList = l at *
    have HAL : Hid (l.length = 64) := hal
    clear hal
    go_enter Try.func9, Try.ntmps9
    go_wp2_with fail
    refine (HRM.out _).mono ?_
    rintro e w1 ⟨rfl, hb1⟩
    obtain ⟨W, hW⟩ : ∃ W, W = w1.alloc (.cells (cs l) 40) := ⟨_, rfl⟩
    have HW : Hid (W = w1.alloc (.cells (cs l) 40)) := hW
    have HRW : Hid (∀ w', Below W.heap.size W w' → Row w' w1.heap.size l) := fun w' h => Row.below (by rw [hW]; exact heap_alloc_last w1 _) h (by rw [hW]; simp)
    have HBW : Hid (Below w.heap.size w W) := by rw [hW]; exact hb1.alloc hb1.size _
    clear hW hb1
    go_wp2_with (refine wpList_storeNew _ rfl _ _ rfl rfl l rfl HAL.out ?_)
    rw [← HW.out]
    go_loopw [5, 14] (fun v i wr => ∃ k : Nat, k ≤ 128 ∧ i = .int .i64 k ∧ wr.ownsRow W.heap.size 2 1 v (linesL l k).length ((linesL l k).map (Value.int .i64)) ∧ Below W.heap.size W wr) (fun _ i _ => 128 - (intOf i).toNat)
    case atStart => exact ⟨0, Nat.zero_le _, rfl, World.ownsRow_nil _ _ _ _, Below.refl _ _⟩
    case round =>
      obtain ⟨k, hk, rfl, hown, hb⟩ := hrel
      have HOW : Hid (wr.ownsRow W.heap.size 2 1 _ (linesL l k).length ((linesL l k).map (Value.int .i64))) := hown
      have HB : Hid (Below W.heap.size W wr) := hb
      clear hown hb
      by_cases hlt : k < 128
      · have hlti : (k : Int) < 128 := by omega
        have HR : Hid (Row wr w1.heap.size l) := HRW.out wr HB.out
        have HC : Hid (∀ w, _) := HAS.out k hlt
        have HS : Hid (linesL l (k + 1) = linesL l k ++ (if bitAt l k = true then [(k : Int)] else [])) := rfl
        have hle := linesL_le l k
        generalize linesL l k = R at HOW HS hle
        cases hb : bitAt l k with
        | false =>
          rw [hb] at HC HS
          clear hb
          go_wp2_with (refine wpList_loadRow _ rfl _ rfl _ rfl l HR.out HAL.out ?_)
          refine (HC.out _).mono ?_
          rintro e w5 ⟨rfl, hb5⟩
          have HO5 : Hid (w5.ownsRow W.heap.size 2 1 _ R.length (R.map (Value.int .i64))) := own_below HOW.out hb5
          have HB5 : Hid (Below W.heap.size W w5) := HB.out.trans (hb5.mono HB.out.size)
          clear hb5
          go_wp2
          go_roundw
          case rel => exact ⟨k + 1, by omega, by go_num, by rw [HS.out]; simpa using HO5.out, HB5.out⟩
          case measure => simp [intOf]; omega
        | true =>
          rw [hb] at HC HS
          clear hb
          go_wp2_with (refine wpList_loadRow _ rfl _ rfl _ rfl l HR.out HAL.out ?_)
          refine (HC.out _).mono ?_
          rintro e w5 ⟨rfl, hb5⟩
          have HO5 : Hid (w5.ownsRow W.heap.size 2 1 _ R.length (R.map (Value.int .i64))) := own_below HOW.out hb5
          have HB5 : Hid (Below W.heap.size W w5) := HB.out.trans (hb5.mono HB.out.size)
          have HLE : Hid (R.length ≤ k) := hle
          clear hb5 hle
          go_wp2_with (at_builtin; refine wpList_push _ rfl _ _ rfl W.heap.size _ R (k : Int) HO5.out rfl rfl (by have := HLE.out; omega) HB5.out.size ?_; intro g cp w6 hown6 hb6 hs6)
          have HO6 : Hid (w6.ownsRow W.heap.size 2 1 (.slice (some ⟨g, 0, none⟩) (R.length + 1) cp) (R ++ [(k : Int)]).length ((R ++ [(k : Int)]).map (Value.int .i64))) := hown6
          have HB6 : Hid (Below W.heap.size W w6) := HB5.out.trans hb6
          clear hown6 hb6 hs6
          go_roundw
          case rel => exact ⟨k + 1, by omega, by go_num, by rw [HS.out]; exact HO6.out, HB6.out⟩
          case measure => simp [intOf]; omega
      · have hk2 : k = 128 := by omega
        subst hk2
        go_wp2
        go_ret
        exact ⟨_, rfl, by rw [HO.out]; exact own_mono HOW.out HBW.out.size, HBW.out.trans (HB.out.mono HBW.out.size)⟩
set_option maxHeartbeats 2000000 in
theorem spec_lines (m : ByteArray) (w : World) :
    Calls Try.prog 12 #[.string m] w fun e w' => ∃ v, e = .returned v ∧ w'.ownsRow w.heap.size 2 1 v (linesOf m).length ((linesOf m).map (Value.int .i64)) ∧ Below w.heap.size w w' := by
  have HM : Hid (∀ w, _) := fun w => l6Map_any m w
  have HB2 : Hid (Below w.heap.size w (w.alloc (.cells #[] 2))) := by show Below _ _ _; go_grown
  have HO2 : Hid ((w.alloc (.cells #[] 2)).ownsRow w.heap.size 2 1 (.slice (some ⟨w.heap.size, 0, none⟩) 0 0) 0 []) := ⟨rfl, .inr ⟨w.heap.size, 0, #[], rfl, Nat.le_refl _, heap_alloc_last w _, Nat.le_refl _, Nat.zero_le _, rfl, rfl⟩⟩
  cases hm : mapOk m with
  | false =>
    rw [hm] at HM
    have HO : Hid (linesOf m = []) := by show linesOf m = []; rw [linesOf, hm]; rfl
    clear hm
    go_enter Try.func12, Try.ntmps12
    go_wp2
    go_loopw [3, 4] (fun v i wr => v = .slice (some ⟨w.heap.size, 0, none⟩) 0 0 ∧ i = .int .i64 0 ∧ wr = w.alloc (.cells #[] 2)) (fun _ _ _ => 0)
    case atStart => exact ⟨rfl, rfl, rfl⟩
    case round =>
      obtain ⟨rfl, rfl, rfl⟩ := hrel
      go_wp2_with fail
      refine (HM.out _).mono ?_
      rintro e w1 ⟨rfl, hb1⟩
      go_wp2
      go_ret
      exact ⟨_, rfl, by rw [HO.out]; exact own_below HO2.out hb1, HB2.out.trans (hb1.mono HB2.out.size)⟩
  | true =>
    rw [hm] at HM
    have HO : Hid (linesOf m = linesL m.data.toList 128) := by show linesOf m = _; rw [linesOf, hm]; rfl
    have hms := mapOk_size hm
    clear hm
    have HBIT : Hid (∀ k : Nat, k < 128 → ∀ w, Calls Try.prog 30 #[.string m, .int .i64 (k : Int)] w fun e w' => e = .returned (.bool (bitAt m.data.toList k)) ∧ w = w') := fun k hk w => l6Bit_any m hms k hk w
    generalize m.data.toList = l at *
    go_enter Try.func12, Try.ntmps12
    go_wp2
    go_loopw [3, 4] (fun v i wr => ∃ k : Nat, k ≤ 128 ∧ i = .int .i64 k ∧ wr.ownsRow w.heap.size 2 1 v (linesL l k).length ((linesL l k).map (Value.int .i64)) ∧ Below w.heap.size w wr) (fun _ i _ => 128 - (intOf i).toNat)
    case atStart => exact ⟨0, Nat.zero_le _, rfl, HO2.out, HB2.out⟩
    case round =>
      obtain ⟨k, hk, rfl, hown, hb⟩ := hrel
      have HOW : Hid (wr.ownsRow w.heap.size 2 1 _ (linesL l k).length ((linesL l k).map (Value.int .i64))) := hown
      have HB : Hid (Below w.heap.size w wr) := hb
      clear hown hb
      by_cases hlt : k < 128
      · have hlti : (k : Int) < 128 := by omega
        have HC : Hid (∀ w, _) := HBIT.out k hlt
        have HS : Hid (linesL l (k + 1) = linesL l k ++ (if bitAt l k = true then [(k : Int)] else [])) := rfl
        have hle := linesL_le l k
        generalize linesL l k = R at HOW HS hle
        have HLE : Hid (R.length ≤ k) := hle
        clear hle
        go_wp2_with fail
        refine (HM.out _).mono ?_
        rintro e w5 ⟨rfl, hb5⟩
        have HO5 : Hid (w5.ownsRow w.heap.size 2 1 _ R.length (R.map (Value.int .i64))) := own_below HOW.out hb5
        have HB5 : Hid (Below w.heap.size w w5) := HB.out.trans (hb5.mono HB.out.size)
        clear hb5
        cases hb : bitAt l k with
        | false =>
          rw [hb] at HC HS
          clear hb
          go_wp2_with fail
          refine (HC.out _).mono ?_
          rintro e w' ⟨rfl, rfl⟩
          go_wp2
          go_roundw
          case rel => exact ⟨k + 1, by omega, by go_num, by rw [HS.out]; simpa using HO5.out, HB5.out⟩
          case measure => simp [intOf]; omega
        | true =>
          rw [hb] at HC HS
          clear hb
          go_wp2_with fail
          refine (HC.out _).mono ?_
          rintro e w' ⟨rfl, rfl⟩
          go_wp2_with (at_builtin; refine wpList_push _ rfl _ _ rfl w.heap.size _ R (k : Int) HO5.out rfl rfl (by have := HLE.out; omega) HB5.out.size ?_; intro g cp w6 hown6 hb6 hs6)
          have HO6 : Hid (w6.ownsRow w.heap.size 2 1 (.slice (some ⟨g, 0, none⟩) (R.length + 1) cp) (R ++ [(k : Int)]).length ((R ++ [(k : Int)]).map (Value.int .i64))) := hown6
          have HB6 : Hid (Below w.heap.size w w6) := HB5.out.trans hb6
          clear hown6 hb6 hs6
          go_roundw
          case rel => exact ⟨k + 1, by omega, by go_num, by rw [HS.out]; exact HO6.out, HB6.out⟩
          case measure => simp [intOf]; omega
      · have hk2 : k = 128 := by omega
        subst hk2
        go_wp2
        go_ret
        exact ⟨_, rfl, by rw [HO.out]; exact HOW.out, HB.out⟩
end Go.Proofs.Ytpagpadpgfcknaa.lb
