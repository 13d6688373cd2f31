/-
  TakeRun and GiveRun, by the program and by the specification; nothing that was there is written.
-/
import Derived.Test.YtomlogkbndmaaaaBits4
namespace Go.Proofs.Ytomlogkbndmaaaa.lb
open Go.RowKit

set_option maxRecDepth 20000 in
theorem in_any (w : World) (x lo hi : Int) :
    Calls Try.prog 43 #[.int .i64 x, .int .i64 lo, .int .i64 hi] w fun e w' => e = .returned (.bool (decide (lo ≤ x) && decide (x ≤ hi))) ∧ w = w' := by
  by_cases h : lo ≤ x
  · have hd : decide (lo ≤ x) = true := by simpa using h
    rw [hd]
    go_enter Try.func43, Try.ntmps43
    go_wp2
    go_ret
    exact ⟨by simp, rfl⟩
  · have hd : decide (lo ≤ x) = false := by simpa using h
    rw [hd]
    go_enter Try.func43, Try.ntmps43
    go_wp2
    go_ret
    exact ⟨rfl, rfl⟩
set_option maxRecDepth 20000 in
theorem within_any (w : World) (x lo hi : Int) :
    Calls Try.prog 70 #[.int .i64 x, .int .i64 lo, .int .i64 hi] w fun e w' => e = .returned (.bool (decide (lo ≤ x) && decide (x ≤ hi))) ∧ w = w' := by
  by_cases h : lo ≤ x
  · have hd : decide (lo ≤ x) = true := by simpa using h
    rw [hd]
    go_enter Try.func70, Try.ntmps70
    go_wp2
    go_ret
    exact ⟨by simp, rfl⟩
  · have hd : decide (lo ≤ x) = false := by simpa using h
    rw [hd]
    go_enter Try.func70, Try.ntmps70
    go_wp2
    go_ret
    exact ⟨rfl, rfl⟩
/-- n lines from a on. -/
def runOkB (a n : Int) : Bool := (decide (1 ≤ n) && decide (n ≤ 128)) && (decide (0 ≤ a) && decide (a ≤ 128 - n))
set_option maxRecDepth 20000 in
theorem runOkB_nat {a n : Int} (h : runOkB a n = true) : ∃ A N : Nat, a = (A : Int) ∧ n = (N : Int) ∧ A + N ≤ 128 ∧ 1 ≤ N := by
  unfold runOkB at h
  simp at h
  exact ⟨a.toNat, n.toNat, by omega, by omega, by omega, by omega⟩
set_option maxRecDepth 20000 in
theorem runOk_any (w : World) (a n : Int) :
    Calls Try.prog 46 #[.int .i64 a, .int .i64 n] w fun e w' => e = .returned (.bool (runOkB a n)) ∧ w = w' := by
  have H1 : Hid (∀ w, _) := fun w => within_any w n 1 128
  unfold runOkB
  cases hb : (decide (1 ≤ n) && decide (n ≤ 128)) with
  | false =>
    rw [hb] at H1
    clear hb
    go_enter Try.func46, Try.ntmps46
    go_wp2_with fail
    refine (H1.out _).mono ?_
    rintro e w' ⟨rfl, rfl⟩
    go_wp2
    go_ret
    exact ⟨rfl, rfl⟩
  | true =>
    rw [hb] at H1
    have hn : 1 ≤ n ∧ n ≤ 128 := by simpa using hb
    have hw : IntKind.i64.wrap (128 - n) = 128 - n := by rw [IntKind.wrap_i64]; omega
    have H2 : Hid (∀ w, _) := fun w => within_any w a 0 (128 - n)
    clear hb
    obtain ⟨hn1, hn2⟩ := hn
    generalize (decide (0 ≤ a) && decide (a ≤ 128 - n)) = q at H2 ⊢
    go_enter Try.func46, Try.ntmps46
    go_wp2_with fail
    refine (H1.out _).mono ?_
    rintro e w' ⟨rfl, rfl⟩
    go_wp2_with fail
    refine (H2.out _).mono ?_
    rintro e w' ⟨rfl, rfl⟩
    go_wp2
    go_ret
    exact ⟨rfl, rfl⟩
/-- What is taken, and what is given. -/
def turned (m : ByteArray) (a n : Int) : ByteArray := ⟨(turnK m.data.toList a.toNat n.toNat).toArray⟩
def takeOk (m : ByteArray) (a n : Int) : Bool := (mapOk m && runOkB a n) && freeK m.data.toList a.toNat n.toNat
def giveOk (m : ByteArray) (a n : Int) : Bool := (mapOk m && runOkB a n) && fullK m.data.toList a.toNat n.toNat
def outOf (b : Bool) (m : ByteArray) (a n : Int) : ByteArray := if b = true then turned m a n else ⟨#[]⟩
set_option maxRecDepth 20000 in
theorem mapOk_size {m : ByteArray} (h : mapOk m = true) : m.size = 64 := by
  unfold mapOk at h
  simp at h
  exact h.1
def arrOf (m : ByteArray) : List UInt8 := if m.size = 64 then m.data.toList else zeros
set_option maxRecDepth 20000 in
theorem arrOf_length (m : ByteArray) : (arrOf m).length = 64 := by
  unfold arrOf
  split
  · simpa using ‹m.size = 64›
  · exact zeros_length
set_option maxRecDepth 20000 in
theorem readMap_any (m : ByteArray) (w : World) :
    Calls Try.prog 37 #[.string m] w fun e w' => e = .returned (.tuple #[.agg (cs (arrOf m)), .bool (mapOk m)]) ∧ Below w.heap.size w w' := by
  by_cases h : m.size = 64
  · have := readMap_yes m h w
    rw [arrOf, if_pos h]; exact this
  · have hno : mapOk m = false := by rw [mapOk, decide_eq_false h]; rfl
    rw [arrOf, if_neg h, hno]; exact readMap_no m h w
set_option maxRecDepth 20000 in
set_option maxHeartbeats 2000000 in
theorem impl_take (w : World) (m : ByteArray) (a n : Int) :
    Calls Try.prog 13 #[.string m, .int .i64 a, .int .i64 n] w fun e w' => e = .returned (.tuple #[.string (outOf (takeOk m a n) m a n), .bool (takeOk m a n)]) ∧ Below w.heap.size w w' := by
  have HRM : Hid (∀ w, _) := fun w => readMap_any m w
  have HRO : Hid (∀ w, _) := fun w => runOk_any w a n
  have hal := arrOf_length m
  unfold takeOk
  cases hm : mapOk m with
  | false =>
    rw [hm] at HRM
    clear hm
    have HO : Hid (outOf (false && runOkB a n && freeK m.data.toList a.toNat n.toNat) m a n = ⟨#[]⟩) := by rfl
    generalize arrOf m = x at HRM hal
    go_enter Try.func13, Try.ntmps13
    go_wp2_with fail
    refine (HRM.out _).mono ?_
    rintro e w1 ⟨rfl, hb1⟩
    go_wp2_with (refine wpList_storeNew _ rfl _ _ rfl rfl x rfl hal ?_)
    go_ret2
    exact ⟨by rw [HO.out]; rfl, hb1.alloc hb1.size _⟩
  | true =>
    rw [hm] at HRM
    have hms := mapOk_size hm
    rw [arrOf, if_pos hms] at HRM hal
    clear hm
    cases hr : runOkB a n with
    | false =>
      rw [hr] at HRO
      clear hr
      have HO : Hid (outOf (true && false && freeK m.data.toList a.toNat n.toNat) m a n = ⟨#[]⟩) := by rfl
      generalize m.data.toList = x at *
      go_enter Try.func13, Try.ntmps13
      go_wp2_with fail
      refine (HRM.out _).mono ?_
      rintro e w1 ⟨rfl, hb1⟩
      go_wp2_with (refine wpList_storeNew _ rfl _ _ rfl rfl x rfl hal ?_)
      refine (HRO.out _).mono ?_
      rintro e w' ⟨rfl, rfl⟩
      go_wp2
      go_ret2
      exact ⟨by rw [HO.out]; rfl, hb1.alloc hb1.size _⟩
    | true =>
      rw [hr] at HRO
      obtain ⟨A, N, rfl, rfl, h128, hN⟩ := runOkB_nat hr
      clear hr
      simp only [Int.toNat_natCast, Bool.true_and]
      have HO : Hid (∀ q, outOf q m A N = if q = true then ⟨(turnK m.data.toList A N).toArray⟩ else ⟨#[]⟩) := fun q => by simp [outOf, turned]
      have HRUN : Hid (∀ w, _) := fun w => run_any A N h128 w
      have hrl := runK_length A N
      have HAM : Hid (∀ w, _) := fun w => among_any m.data.toList (runK A N) hal hrl w
      have HWI : Hid (∀ w, _) := fun w => with_any m.data.toList (runK A N) hal hrl w
      have HWT : Hid (freeK m.data.toList A N = true → mix (· ||| ·) m.data.toList (runK A N) = turnK m.data.toList A N) := with_turn _ hal A N h128
      have hxl : (mix (· &&& ·) m.data.toList (runK A N)).length = 64 := by rw [mix_length]; exact hal
      have hyl : (mix (· ||| ·) m.data.toList (runK A N)).length = 64 := by rw [mix_length]; exact hal
      have heq := eq_any (mix (· &&& ·) m.data.toList (runK A N)) zeros hxl zeros_length
      rw [among_none _ hal A N h128, ← zlit_ag] at heq
      generalize mix (· &&& ·) m.data.toList (runK A N) = x at HAM heq hxl
      have HTX : Hid (∀ w, _) := fun w => text_any (mix (· ||| ·) m.data.toList (runK A N)) hyl w
      generalize mix (· ||| ·) m.data.toList (runK A N) = y at HWI HWT hyl HTX
      generalize runK A N = r at HRUN HAM HWI hrl
      generalize m.data.toList = l at *
      have HAL : Hid (l.length = 64) := hal
      have HRL : Hid (r.length = 64) := hrl
      clear hal hrl hxl hyl
      go_enter Try.func13, Try.ntmps13
      go_wp2_with fail
      refine (HRM.out _).mono ?_
      rintro e w1 ⟨rfl, hb1⟩
      have HB1 : Hid (Below w.heap.size w w1) := hb1
      clear hb1
      go_wp2_with (refine wpList_storeNew _ rfl _ _ rfl rfl l rfl HAL.out ?_)
      refine (HRO.out _).mono ?_
      rintro e w' ⟨rfl, rfl⟩
      go_wp2_with fail
      refine (HRUN.out _).mono ?_
      rintro e w3 ⟨rfl, hb3⟩
      have HL3 : Hid (Row w3 w1.heap.size l) := Row.below (heap_alloc_last w1 _) hb3 (by simp)
      have HB3 : Hid (Below w.heap.size w w3) := (HB1.out.alloc HB1.out.size _).trans (hb3.mono (HB1.out.alloc HB1.out.size _).size)
      have HS3 : Hid (w1.heap.size < w3.heap.size) := Nat.lt_of_lt_of_le (by simp) hb3.size
      clear hb3
      have HL4 : Hid (Row (w3.alloc (.cells (cs r) 63)) w1.heap.size l) := by show Row _ _ _; unfold Row; rw [Below.heap_alloc _ _ _ HS3.out]; exact HL3.out
      have HR4 : Hid (Row (w3.alloc (.cells (cs r) 63)) w3.heap.size r) := heap_alloc_last w3 _
      have HB4 : Hid (Below w.heap.size w (w3.alloc (.cells (cs r) 63))) := HB3.out.alloc HB3.out.size _
      go_wp2_with (first | (refine wpList_storeNew _ rfl _ _ rfl rfl r rfl HRL.out ?_) | (refine wpList_loadRow _ rfl _ rfl _ rfl l HL4.out HAL.out ?_) | (refine wpList_loadRow _ rfl _ rfl _ rfl r HR4.out HRL.out ?_))
      refine (HAM.out _).mono ?_
      rintro e w5 ⟨rfl, hb5⟩
      have HL5 : Hid (Row w5 w1.heap.size l) := HL4.out.below hb5 (by have := HS3.out; simp; omega)
      have HR5 : Hid (Row w5 w3.heap.size r) := HR4.out.below hb5 (by simp)
      have HB5 : Hid (Below w.heap.size w w5) := HB4.out.trans (hb5.mono HB4.out.size)
      clear hb5
      cases hf : freeK l A N with
      | false =>
        rw [hf] at heq
        have HF : Hid (freeK l A N = false) := hf
        clear hf
        go_wp2
        go_ret2
        exact ⟨by rw [HF.out, HO.out]; rfl, HB5.out⟩
      | true =>
        rw [hf] at heq
        have HWT' : Hid (y = turnK l A N) := HWT.out hf
        have HF : Hid (freeK l A N = true) := hf
        clear hf
        go_wp2_with (first | (refine wpList_loadRow _ rfl _ rfl _ rfl l HL5.out HAL.out ?_) | (refine wpList_loadRow _ rfl _ rfl _ rfl r HR5.out HRL.out ?_))
        refine (HWI.out _).mono ?_
        rintro e w6 ⟨rfl, hb6⟩
        go_wp2_with fail
        refine (HTX.out _).mono ?_
        rintro e w7 ⟨rfl, hb7⟩
        have HB7 : Hid (Below w.heap.size w w7) := (HB5.out.trans (hb6.mono HB5.out.size)).trans (hb7.mono (HB5.out.trans (hb6.mono HB5.out.size)).size)
        clear hb6 hb7
        go_wp2
        go_ret2
        exact ⟨by rw [HF.out, HO.out, HWT'.out]; rfl, HB7.out⟩
end Go.Proofs.Ytomlogkbndmaaaa.lb
