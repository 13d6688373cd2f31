/-
  FreeOf, FindRun and Gaps by the specification; nothing that was there is written.
-/
import Derived.Test.YtomlogkbndmaaaaGaps3
import Derived.BigQuiet
import Derived.Deep.QuietTactic
namespace Go.Proofs.Ytomlogkbndmaaaa.lb
open Go.RowKit
open ints

set_option maxRecDepth 20000 in
theorem l6Range_any (w : World) (m : ByteArray) (a b : Int) :
    Calls Try.prog 93 #[.string m, .int .i64 a, .int .i64 b] w fun e w' => e = .returned (.bool (mapOk m && rangeB a b)) ∧ Below w.heap.size w w' := by
  have HM : Hid (∀ w, _) := fun w => l6Map_any m w
  cases hm : mapOk m with
  | false =>
    rw [hm] at HM
    clear hm
    go_enter Try.func93, Try.ntmps93
    go_wp2_with fail
    refine (HM.out _).mono ?_
    rintro e w1 ⟨rfl, hb1⟩
    go_wp2
    go_ret
    exact ⟨rfl, hb1⟩
  | true =>
    rw [hm] at HM
    clear hm
    by_cases h1 : 0 ≤ a
    · by_cases h2 : a ≤ b
      · have hr : rangeB a b = decide (b ≤ 128) := by rw [rangeB, decide_eq_true h1, decide_eq_true h2]; rfl
        rw [hr]
        go_enter Try.func93, Try.ntmps93
        go_wp2_with fail
        refine (HM.out _).mono ?_
        rintro e w1 ⟨rfl, hb1⟩
        go_wp2
        go_ret
        exact ⟨by simp, hb1⟩
      · have hr : rangeB a b = false := by rw [rangeB, decide_eq_true h1, decide_eq_false h2]; rfl
        rw [hr]
        go_enter Try.func93, Try.ntmps93
        go_wp2_with fail
        refine (HM.out _).mono ?_
        rintro e w1 ⟨rfl, hb1⟩
        go_wp2
        go_ret
        exact ⟨rfl, hb1⟩
    · have hr : rangeB a b = false := by rw [rangeB, decide_eq_false h1]; rfl
      rw [hr]
      go_enter Try.func93, Try.ntmps93
      go_wp2_with fail
      refine (HM.out _).mono ?_
      rintro e w1 ⟨rfl, hb1⟩
      go_wp2
      go_ret
      exact ⟨rfl, hb1⟩
set_option maxRecDepth 20000 in
set_option maxHeartbeats 1000000 in
theorem spec_find (m : ByteArray) (a b n : Int) (w : World) :
    Calls Try.prog 76 #[.string m, .int .i64 a, .int .i64 b, .int .i64 n] w fun e w' => e = .returned (.int .i64 (findOf m a b n)) ∧ Below w.heap.size w w' := by
  have HR : Hid (∀ w, _) := fun w => l6Range_any w m a b
  have HI : Hid (∀ w, _) := fun w => in_any w n 1 128
  cases h : mapOk m && rangeB a b with
  | false =>
    have HFF : Hid (findOf m a b n = -1) := by show findOf m a b n = -1; rw [findOf, h]; rfl
    rw [h] at HR
    clear h
    go_enter Try.func76, Try.ntmps76
    go_wp2_with fail
    refine (HR.out _).mono ?_
    rintro e w1 ⟨rfl, hb1⟩
    go_wp2
    go_ret
    exact ⟨by rw [HFF.out]; rfl, hb1⟩
  | true =>
    cases hn : (decide (1 ≤ n) && decide (n ≤ 128)) with
    | false =>
      have HFF : Hid (findOf m a b n = -1) := by show findOf m a b n = -1; rw [findOf, h, hn]; rfl
      rw [h] at HR
      rw [hn] at HI
      clear h hn
      go_enter Try.func76, Try.ntmps76
      go_wp2_with fail
      refine (HR.out _).mono ?_
      rintro e w1 ⟨rfl, hb1⟩
      go_wp2_with fail
      refine (HI.out _).mono ?_
      rintro e w' ⟨rfl, rfl⟩
      go_wp2
      go_ret
      exact ⟨by rw [HFF.out]; rfl, hb1⟩
    | true =>
      obtain ⟨A, N, rfl, rfl, h128, hm, e1, e2⟩ := yes_nat h
      have hnn : 1 ≤ n ∧ n ≤ 128 := by simpa using hn
      obtain ⟨q, rfl⟩ := Int.eq_ofNat_of_zero_le (by omega : 0 ≤ n)
      have hff : findOf m (A : Int) ((A + N : Nat) : Int) (q : Int) = findG q (gapsK m.data.toList A N) := by rw [findOf, h, hn]; simp only [Bool.and_self, if_true, e1, e2, Int.toNat_natCast]
      have hfst := findG_first m.data.toList A N q (by omega)
      rw [← hff] at hfst
      have HFF : Hid (∀ r, IsFirst m.data.toList A N q r → r = findOf m (A : Int) ((A + N : Nat) : Int) (q : Int)) := fun r hr => hr.unique hfst
      rw [h] at HR
      rw [hn] at HI
      have hms := mapOk_size hm
      have HFR : Hid (∀ t : Nat, t + q ≤ 128 → ∀ w, Calls Try.prog 94 #[.string m, .int .i64 (t : Int), .int .i64 (q : Int)] w fun e w' => e = .returned (.bool (freeK m.data.toList t q)) ∧ w = w') := fun t ht w => l6Free_any m hms t q ht w
      generalize findOf m (A : Int) ((A + N : Nat) : Int) (q : Int) = r at HFF ⊢
      generalize m.data.toList = l at *
      clear h hn e1 e2 hm hff hfst
      obtain ⟨hn1, hn2⟩ := hnn
      go_enter Try.func76, Try.ntmps76
      go_wp2_with fail
      refine (HR.out _).mono ?_
      rintro e w1 ⟨rfl, hb1⟩
      have HB1 : Hid (Below w.heap.size w w1) := hb1
      clear hb1
      go_wp2_with fail
      refine (HI.out _).mono ?_
      rintro e w' ⟨rfl, rfl⟩
      go_wp2
      go_loop [9] (fun i => ∃ t : Nat, A ≤ t ∧ t ≤ A + N ∧ i = .int .i64 (t : Int) ∧ ∀ u, A ≤ u → u < t → freeK l u q = false) (fun i => A + N - (intOf i).toNat)
      case atStart => exact ⟨A, Nat.le_refl _, by omega, rfl, fun u h1 h2 => by omega⟩
      case round =>
        obtain ⟨t, ht1, ht2, rfl, hno⟩ := hrel
        have HNO : Hid (∀ u, A ≤ u → u < t → freeK l u q = false) := hno
        clear hno
        by_cases hlt : t + q ≤ A + N
        · have e2 : (t : Int) + (q : Int) ≤ ((A + N : Nat) : Int) := by omega
          have HC : Hid (∀ w, _) := HFR.out t (by omega)
          cases hf : freeK l t q with
          | true =>
            rw [hf] at HC
            have HRES : Hid ((t : Int) = r) := HFF.out t (.inl ⟨t, rfl, ht1, hlt, hf, HNO.out⟩)
            clear hf
            go_wp2_with fail
            refine (HC.out _).mono ?_
            rintro e w' ⟨rfl, rfl⟩
            go_wp2
            go_ret
            exact ⟨by rw [← HRES.out]; rfl, HB1.out⟩
          | false =>
            rw [hf] at HC
            have HNX : Hid (∀ u, A ≤ u → u < t + 1 → freeK l u q = false) := fun u h1 h2 => by
              by_cases e : u = t
              · rw [e]; exact hf
              · exact HNO.out u h1 (by omega)
            clear hf
            go_wp2_with fail
            refine (HC.out _).mono ?_
            rintro e w' ⟨rfl, rfl⟩
            go_wp2
            refine ⟨⟨t + 1, by omega, by omega, by go_num, HNX.out⟩, by simp [intOf]; omega⟩
        · have e2 : ¬ (t : Int) + (q : Int) ≤ ((A + N : Nat) : Int) := by omega
          have HRES : Hid ((-1 : Int) = r) := HFF.out (-1) (.inr ⟨rfl, fun u h1 h2 => HNO.out u h1 (by omega)⟩)
          go_wp2
          go_ret
          exact ⟨by rw [← HRES.out]; rfl, HB1.out⟩
end Go.Proofs.Ytomlogkbndmaaaa.lb
