/-
  The gaps of a map, by the program; nothing that was there is written.
-/
import Derived.Test.YtomlogkbndmaaaaGaps
namespace Go.Proofs.Ytomlogkbndmaaaa.lb
open Go.RowKit
open ints

set_option maxRecDepth 20000 in
theorem gapsOf_no (m : ByteArray) (a b : Int) (h : (mapOk m && rangeB a b) = false) (w : World) :
    Calls Try.prog 73 #[.string m, .int .i64 a, .int .i64 b] w fun e w' => e = .returned (.tuple #[.slice none 0 0, .bool false]) ∧ Below w.heap.size w w' := by
  have HRM : Hid (∀ w, _) := fun w => readMap_any m w
  have hal := arrOf_length m
  generalize arrOf m = x at HRM hal
  cases hm : mapOk m with
  | false =>
    rw [hm] at HRM
    clear hm h
    go_enter Try.func73, Try.ntmps73
    go_wp2_with fail
    refine (HRM.out _).mono ?_
    rintro e w1 ⟨rfl, hb1⟩
    go_wp2_with (refine wpList_storeNew _ rfl _ _ rfl rfl x rfl hal ?_)
    go_ret2
    exact ⟨rfl, hb1.alloc hb1.size _⟩
  | true =>
    rw [hm] at HRM h
    clear hm
    rw [Bool.true_and] at h
    by_cases h1 : a < 0
    · clear h
      go_enter Try.func73, Try.ntmps73
      go_wp2_with fail
      refine (HRM.out _).mono ?_
      rintro e w1 ⟨rfl, hb1⟩
      go_wp2_with (refine wpList_storeNew _ rfl _ _ rfl rfl x rfl hal ?_)
      go_ret2
      exact ⟨rfl, hb1.alloc hb1.size _⟩
    · by_cases h2 : b < a
      · clear h
        go_enter Try.func73, Try.ntmps73
        go_wp2_with fail
        refine (HRM.out _).mono ?_
        rintro e w1 ⟨rfl, hb1⟩
        go_wp2_with (refine wpList_storeNew _ rfl _ _ rfl rfl x rfl hal ?_)
        go_ret2
        exact ⟨rfl, hb1.alloc hb1.size _⟩
      · have h3 : 128 < b := by
          unfold rangeB at h
          simp at h
          omega
        clear h
        go_enter Try.func73, Try.ntmps73
        go_wp2_with fail
        refine (HRM.out _).mono ?_
        rintro e w1 ⟨rfl, hb1⟩
        go_wp2_with (refine wpList_storeNew _ rfl _ _ rfl rfl x rfl hal ?_)
        go_ret2
        exact ⟨rfl, hb1.alloc hb1.size _⟩
set_option maxRecDepth 20000 in
set_option maxHeartbeats 4000000 in
theorem gapsOf_yes (m : ByteArray) (A N : Nat) (hm : mapOk m = true) (hr : A + N ≤ 128) (w : World) :
    Calls Try.prog 73 #[.string m, .int .i64 (A : Int), .int .i64 ((A + N : Nat) : Int)] w fun e w' => ∃ v, e = .returned (.tuple #[v, .bool true]) ∧ w'.ownsRow w.heap.size 106 2 v (gapsK m.data.toList A N).length (cellsOfSpans (gapsK m.data.toList A N)) ∧ Below w.heap.size w w' := by
  have HRM : Hid (∀ w, _) := fun w => readMap_any m w
  have hal := arrOf_length m
  rw [hm] at HRM
  have hms := mapOk_size hm
  rw [arrOf, if_pos hms] at HRM hal
  clear hm
  have HAS : Hid (∀ n : Nat, n < 128 → ∀ w, Calls Try.prog 91 #[.agg (cs m.data.toList), .int .i64 (n : Int)] w fun e w' => e = .returned (.bool (bitAt m.data.toList n)) ∧ Below w.heap.size w w') := fun n hn w => has_any _ hal n hn w
  generalize m.data.toList = l at *
  have HAL : Hid (l.length = 64) := hal
  clear hal
  have e1 : ¬ (A : Int) < 0 := by omega
  have e2 : ¬ ((A + N : Nat) : Int) < (A : Int) := by omega
  have e3 : ¬ (128 : Int) < ((A + N : Nat) : Int) := by omega
  go_enter Try.func73, Try.ntmps73
  go_wp2_with fail
  refine (HRM.out _).mono ?_
  rintro e w1 ⟨rfl, hb1⟩
  obtain ⟨W, hW⟩ : ∃ W, W = w1.alloc (.cells (cs l) 63) := ⟨_, rfl⟩
  have HW : Hid (W = w1.alloc (.cells (cs l) 63)) := hW
  have HRW : Hid (∀ w', Below W.heap.size W w' → Row w' w1.heap.size l) := fun w' h => Row.below (by rw [hW]; exact heap_alloc_last w1 _) h (by rw [hW]; simp)
  have HBW : Hid (Below w.heap.size w W) := by rw [hW]; exact hb1.alloc hb1.size _
  clear hW hb1
  go_wp2_with (refine wpList_storeNew _ rfl _ _ rfl rfl l rfl HAL.out ?_)
  rw [← HW.out]
  go_loopw [10, 11, 12] (fun v q i wr => ∃ k : Nat, k ≤ N ∧ i = .int .i64 ((A + k : Nat) : Int) ∧ q = .bool (inGapB l A k) ∧ wr.ownsRow W.heap.size 106 2 v (gapsK l A k).length (cellsOfSpans (gapsK l A k)) ∧ Below W.heap.size W wr) (fun _ _ i _ => A + N - (intOf i).toNat)
  case atStart => exact ⟨0, Nat.zero_le _, rfl, rfl, World.ownsRow_nil _ _ _ _, Below.refl _ _⟩
  case round =>
    obtain ⟨k, hk, rfl, rfl, hown, hb⟩ := hrel
    have HOW : Hid (wr.ownsRow W.heap.size 106 2 _ (gapsK l A k).length (cellsOfSpans (gapsK l A k))) := hown
    have HB : Hid (Below W.heap.size W wr) := hb
    clear hown hb
    by_cases hlt : k < N
    · have HR : Hid (Row wr w1.heap.size l) := HRW.out wr HB.out
      have HS : Hid (gapsK l A (k + 1) = if bitAt l (A + k) = true then gapsK l A k else if inGapB l A k = true then bump (gapsK l A k) else gapsK l A k ++ [(A + k, 1)]) := rfl
      have HQ : Hid (inGapB l A (k + 1) = !bitAt l (A + k)) := rfl
      obtain ⟨hle, hpos, _⟩ := gapsK_known l A k
      have hlen := gapsK_len l A k
      obtain ⟨g, hg⟩ : ∃ g, g = A + k := ⟨_, rfl⟩
      have HG : Hid (g = A + k) := hg
      rw [← hg] at HS HQ ⊢
      have HC : Hid (∀ w, _) := HAS.out g (by omega)
      have e4 : (g : Int) < ((A + N : Nat) : Int) := by omega
      have HLEN : Hid (∀ s ∈ gapsK l A k, s.1 + s.2 ≤ 128) := fun s hs => by have := hlen s hs; omega
      generalize gapsK l A k = R at HOW HS hle hpos HLEN
      have HLE : Hid (R.length ≤ k) := hle
      have HPOS : Hid (inGapB l A k = true → 0 < R.length) := hpos
      clear hle hpos hlen hg
      cases hb : bitAt l g with
      | true =>
        rw [hb] at HC HS HQ
        clear hb
        go_wp2_with (refine wpList_loadRow _ rfl _ rfl _ rfl l HR.out HAL.out ?_)
        refine (HC.out _).mono ?_
        rintro e w5 ⟨rfl, hb5⟩
        have HO5 : Hid (w5.ownsRow W.heap.size 106 2 _ R.length (cellsOfSpans R)) := own_below HOW.out hb5
        have HB5 : Hid (Below W.heap.size W w5) := HB.out.trans (hb5.mono HB.out.size)
        clear hb5
        go_wp2
        go_roundw
        case rel => exact ⟨k + 1, by omega, by have := HG.out; go_num, by rw [HQ.out]; rfl, by rw [HS.out]; exact HO5.out, HB5.out⟩
        case measure => simp [intOf]; omega
      | false =>
        rw [hb] at HC HS HQ
        clear hb
        cases hi : inGapB l A k with
        | true =>
          rw [hi] at HS
          have hp := HPOS.out hi
          have HSB : Hid (gapsK l A (k + 1) = bump R) := HS.out
          obtain ⟨c, hc⟩ : ∃ c, R.length = c + 1 := ⟨R.length - 1, by omega⟩
          have hbm := set_bump R hp
          rw [hc, Nat.add_sub_cancel] at hbm
          obtain ⟨hx0, hx1⟩ := cellsOfSpans_at R c (by omega)
          have hcl := cellsOfSpans_len R
          have hgd : R.getD c (0, 0) = R[c]'(by omega) := by rw [List.getD_eq_getElem?_getD, List.getElem?_eq_getElem (by omega)]; rfl
          rw [hgd] at hbm
          have hsl := HLEN.out (R[c]'(by omega)) (List.getElem_mem _)
          generalize R[c]'(by omega) = s at hbm hx1 hsl
          obtain ⟨p, q⟩ := s
          simp only at hbm hx1 hsl
          have HBM : Hid ((cellsOfSpans R).set (c * 2 + 1) (.int .i64 ((q + 1 : Nat) : Int)) = cellsOfSpans (bump R)) := hbm
          have HX1 : Hid ((cellsOfSpans R)[c * 2 + 1]? = some (.int .i64 (q : Int))) := hx1
          have HCL : Hid (c * 2 + 1 < (cellsOfSpans R).length) := by show c * 2 + 1 < _; omega
          have hq : (q : Int) ≤ 128 := by omega
          have hcn : (c : Int) ≤ 128 := by have := HLE.out; omega
          have HRC : Hid (R.length = c + 1) := hc
          clear hi hp hx0 hx1 hbm hgd hsl hcl hc
          go_wp2_with (refine wpList_loadRow _ rfl _ rfl _ rfl l HR.out HAL.out ?_)
          refine (HC.out _).mono ?_
          rintro e w5 ⟨rfl, hb5⟩
          have ho5 := own_below HOW.out hb5
          have HB5 : Hid (Below W.heap.size W w5) := HB.out.trans (hb5.mono HB.out.size)
          rw [HRC.out] at ho5
          obtain ⟨gg, cp, rfl, hgg, hcell, hset⟩ := own_open ho5 (by omega)
          have c1 : w5.cell? ⟨gg, c * 2 + 1, none⟩ = some (.int .i64 (q : Int)) := by
            rw [(hcell _ HCL.out).1, ← List.getElem?_eq_getElem HCL.out]; exact HX1.out
          have f1 := (hcell _ HCL.out).2
          have hfin := hset (c * 2 + 1) (.int .i64 ((q + 1 : Nat) : Int)) HCL.out
          rw [HBM.out] at hfin
          have HFIN : Hid _ := hfin
          have HBF : Hid (Below W.heap.size W (w5.setCell ⟨gg, c * 2 + 1, none⟩ (.int .i64 ((q + 1 : Nat) : Int)))) := HB5.out.setCell hgg _
          clear hb5 ho5 hcell hset hfin hgg
          go_wp2
          go_roundw
          case rel => exact ⟨k + 1, by omega, by have := HG.out; go_num, by rw [HQ.out]; rfl, by rw [HSB.out, bump_length, HRC.out]; exact HFIN.out, HBF.out⟩
          case measure => simp [intOf]; omega
        | false =>
          rw [hi] at HS
          have HSB : Hid (gapsK l A (k + 1) = R ++ [(g, 1)]) := HS.out
          have hle : R.length ≤ 128 := by have := HLE.out; omega
          clear hi
          go_wp2_with (refine wpList_loadRow _ rfl _ rfl _ rfl l HR.out HAL.out ?_)
          refine (HC.out _).mono ?_
          rintro e w5 ⟨rfl, hb5⟩
          have HO5 : Hid (w5.ownsRow W.heap.size 106 2 _ R.length (cellsOfSpans R)) := own_below HOW.out hb5
          have HB5 : Hid (Below W.heap.size W w5) := HB.out.trans (hb5.mono HB.out.size)
          clear hb5
          go_wp2_with (at_builtin; refine wpList_pushS _ rfl _ _ rfl W.heap.size _ R g 0 HO5.out rfl rfl (by have := HLE.out; omega) HB5.out.size ?_; intro g6 cp w6 hown6 hb6 hs6; obtain ⟨hgg, _, c1, f1, hfin⟩ := last_span hown6; have HFIN : Hid _ := hfin; have HB6 : Hid (Below W.heap.size W w6) := HB5.out.trans hb6; have HBF : Hid (Below W.heap.size W (w6.setCell ⟨g6, R.length * 2 + 1, none⟩ (.int .i64 1))) := HB6.out.setCell hgg _; clear hown6 hb6 hs6 hfin hgg)
          go_roundw
          case rel => exact ⟨k + 1, by omega, by have := HG.out; go_num, by rw [HQ.out]; rfl, by rw [HSB.out]; exact HFIN.out, HBF.out⟩
          case measure => simp [intOf]; omega
    · have hk2 : k = N := by omega
      subst hk2
      have e4 : ¬ ((A + k : Nat) : Int) < ((A + k : Nat) : Int) := by omega
      go_wp2
      go_ret2
      exact ⟨_, rfl, own_mono HOW.out HBW.out.size, HBW.out.trans (HB.out.mono HBW.out.size)⟩
end Go.Proofs.Ytomlogkbndmaaaa.lb
