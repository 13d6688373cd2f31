/-
  TakeRun and GiveRun, by the program and by the specification; nothing that was there is written.
-/
import Derived.Test.YtkckhklllcggeaaBits4
namespace Go.Proofs.Ytkckhklllcggeaa.lb
open Go.RowKit

theorem in_any (w : World) (x lo hi : Int) :
    Calls Try.prog 51 #[.int .i64 x, .int .i64 lo, .int .i64 hi] w fun e w' => e = .returned (.bool (decide (lo ≤ x) && decide (x ≤ hi))) ∧ w = w' := by
  by_cases h : lo ≤ x
  · have hd : decide (lo ≤ x) = true := by simpa using h
    rw [hd]
    go_enter Try.func51, Try.ntmps51
    go_wp2
    go_ret
    exact ⟨by simp, rfl⟩
  · have hd : decide (lo ≤ x) = false := by simpa using h
    rw [hd]
    go_enter Try.func51, Try.ntmps51
    go_wp2
    go_ret
    exact ⟨rfl, rfl⟩
theorem within_any (w : World) (x lo hi : Int) :
    Calls Try.prog 64 #[.int .i64 x, .int .i64 lo, .int .i64 hi] w fun e w' => e = .returned (.bool (decide (lo ≤ x) && decide (x ≤ hi))) ∧ w = w' := by
  by_cases h : lo ≤ x
  · have hd : decide (lo ≤ x) = true := by simpa using h
    rw [hd]
    go_enter Try.func64, Try.ntmps64
    go_wp2
    go_ret
    exact ⟨by simp, rfl⟩
  · have hd : decide (lo ≤ x) = false := by simpa using h
    rw [hd]
    go_enter Try.func64, Try.ntmps64
    go_wp2
    go_ret
    exact ⟨rfl, rfl⟩
/-- n lines from a on. -/
def runOkB (a n : Int) : Bool := (decide (1 ≤ n) && decide (n ≤ 128)) && (decide (0 ≤ a) && decide (a ≤ 128 - n))
theorem runOkB_nat {a n : Int} (h : runOkB a n = true) : ∃ A N : Nat, a = (A : Int) ∧ n = (N : Int) ∧ A + N ≤ 128 ∧ 1 ≤ N := by
  unfold runOkB at h
  simp at h
  exact ⟨a.toNat, n.toNat, by omega, by omega, by omega, by omega⟩
theorem runOk_any (w : World) (a n : Int) :
    Calls Try.prog 57 #[.int .i64 a, .int .i64 n] w fun e w' => e = .returned (.bool (runOkB a n)) ∧ w = w' := by
  have H1 : Hid (∀ w, _) := fun w => within_any w n 1 128
  unfold runOkB
  cases hb : (decide (1 ≤ n) && decide (n ≤ 128)) with
  | false =>
    rw [hb] at H1
    clear hb
    go_enter Try.func57, Try.ntmps57
    go_wp2_with fail
    refine (H1.out _).mono ?_
    rintro e w' ⟨rfl, rfl⟩
    go_wp2
    go_ret
    exact ⟨rfl, rfl⟩
  | true =>
    rw [hb] at H1
    have hn : 1 ≤ n ∧ n ≤ 128 := by simpa using hb
    have hw : IntKind.i64.wrap (128 - n) = 128 - n := by rw [IntKind.wrap_i64]; omega
    have H2 : Hid (∀ w, _) := fun w => within_any w a 0 (128 - n)
    clear hb
    obtain ⟨hn1, hn2⟩ := hn
    generalize (decide (0 ≤ a) && decide (a ≤ 128 - n)) = q at H2 ⊢
    go_enter Try.func57, Try.ntmps57
    go_wp2_with fail
    refine (H1.out _).mono ?_
    rintro e w' ⟨rfl, rfl⟩
    go_wp2_with fail
    refine (H2.out _).mono ?_
    rintro e w' ⟨rfl, rfl⟩
    go_wp2
    go_ret
    exact ⟨rfl, rfl⟩
theorem l6Run_any (w : World) (m : ByteArray) (a n : Int) :
    Calls Try.prog 59 #[.string m, .int .i64 a, .int .i64 n] w fun e w' => e = .returned (.bool (mapOk m && runOkB a n)) ∧ Below w.heap.size w w' := by
  have HM : Hid (∀ w, _) := fun w => l6Map_any m w
  cases hm : mapOk m with
  | false =>
    rw [hm] at HM
    clear hm
    go_enter Try.func59, Try.ntmps59
    go_wp2_with fail
    refine (HM.out _).mono ?_
    rintro e w1 ⟨rfl, hb1⟩
    go_wp2
    go_ret
    exact ⟨rfl, hb1⟩
  | true =>
    rw [hm] at HM
    clear hm
    have H1 : Hid (∀ w, _) := fun w => in_any w n 1 128
    unfold runOkB
    cases hb : (decide (1 ≤ n) && decide (n ≤ 128)) with
    | false =>
      rw [hb] at H1
      clear hb
      go_enter Try.func59, Try.ntmps59
      go_wp2_with fail
      refine (HM.out _).mono ?_
      rintro e w1 ⟨rfl, hb1⟩
      go_wp2_with fail
      refine (H1.out _).mono ?_
      rintro e w' ⟨rfl, rfl⟩
      go_wp2
      go_ret
      exact ⟨rfl, hb1⟩
    | true =>
      rw [hb] at H1
      have hn : 1 ≤ n ∧ n ≤ 128 := by simpa using hb
      have hw : IntKind.i64.wrap (128 - n) = 128 - n := by rw [IntKind.wrap_i64]; omega
      have H2 : Hid (∀ w, _) := fun w => in_any w a 0 (128 - n)
      clear hb
      obtain ⟨hn1, hn2⟩ := hn
      generalize (decide (0 ≤ a) && decide (a ≤ 128 - n)) = q at H2 ⊢
      go_enter Try.func59, Try.ntmps59
      go_wp2_with fail
      refine (HM.out _).mono ?_
      rintro e w1 ⟨rfl, hb1⟩
      go_wp2_with fail
      refine (H1.out _).mono ?_
      rintro e w' ⟨rfl, rfl⟩
      go_wp2_with fail
      refine (H2.out _).mono ?_
      rintro e w' ⟨rfl, rfl⟩
      go_wp2
      go_ret
      exact ⟨rfl, hb1⟩
/-- What is taken, and what is given. -/
def turned (m : ByteArray) (a n : Int) : ByteArray := ⟨(turnK m.data.toList a.toNat n.toNat).toArray⟩
def takeOk (m : ByteArray) (a n : Int) : Bool := (mapOk m && runOkB a n) && freeK m.data.toList a.toNat n.toNat
def giveOk (m : ByteArray) (a n : Int) : Bool := (mapOk m && runOkB a n) && fullK m.data.toList a.toNat n.toNat
def outOf (b : Bool) (m : ByteArray) (a n : Int) : ByteArray := if b = true then turned m a n else ⟨#[]⟩
theorem mapOk_size {m : ByteArray} (h : mapOk m = true) : m.size = 64 := by
  unfold mapOk at h
  simp at h
  exact h.1
theorem spec_take (w : World) (m : ByteArray) (a n : Int) :
    Calls Try.prog 25 #[.string m, .int .i64 a, .int .i64 n] w fun e w' => e = .returned (.tuple #[.string (outOf (takeOk m a n) m a n), .bool (takeOk m a n)]) ∧ Below w.heap.size w w' := by
  have HR : Hid (∀ w, _) := fun w => l6Run_any w m a n
  unfold takeOk
  cases hr : mapOk m && runOkB a n with
  | false =>
    rw [hr] at HR
    clear hr
    have HO : Hid (outOf (false && freeK m.data.toList a.toNat n.toNat) m a n = ⟨#[]⟩) := rfl
    go_enter Try.func25, Try.ntmps25
    go_wp2_with fail
    refine (HR.out _).mono ?_
    rintro e w1 ⟨rfl, hb1⟩
    go_wp2
    go_ret2
    exact ⟨by rw [HO.out]; rfl, hb1⟩
  | true =>
    rw [hr] at HR
    rw [Bool.and_eq_true] at hr
    obtain ⟨A, N, rfl, rfl, h128, hN⟩ := runOkB_nat hr.2
    have hms := mapOk_size hr.1
    have HF : Hid (∀ w, _) := fun w => l6Free_any m hms A N h128 w
    have HT : Hid (∀ w, _) := fun w => l6Turn_any m hms A N h128 w
    clear hr
    simp only [Int.toNat_natCast, Bool.true_and]
    have HO : Hid (∀ q, outOf q m A N = if q = true then ⟨(turnK m.data.toList A N).toArray⟩ else ⟨#[]⟩) := fun q => by simp [outOf, turned]
    cases hf : freeK m.data.toList A N with
    | false =>
      rw [hf] at HF
      clear hf
      go_enter Try.func25, Try.ntmps25
      go_wp2_with fail
      refine (HR.out _).mono ?_
      rintro e w1 ⟨rfl, hb1⟩
      go_wp2_with fail
      refine (HF.out _).mono ?_
      rintro e w' ⟨rfl, rfl⟩
      go_wp2
      go_ret2
      exact ⟨by rw [HO.out]; rfl, hb1⟩
    | true =>
      rw [hf] at HF
      clear hf
      generalize ByteArray.mk (turnK m.data.toList A N).toArray = st at HT HO
      go_enter Try.func25, Try.ntmps25
      go_wp2_with fail
      refine (HR.out _).mono ?_
      rintro e w1 ⟨rfl, hb1⟩
      go_wp2_with fail
      refine (HF.out _).mono ?_
      rintro e w' ⟨rfl, rfl⟩
      go_wp2_with fail
      refine (HT.out _).mono ?_
      rintro e w2 ⟨rfl, hb2⟩
      go_wp2
      go_ret2
      exact ⟨by rw [HO.out]; rfl, hb1.trans (hb2.mono hb1.size)⟩
theorem fullK_le (l : List UInt8) (a k n : Nat) (h : k ≤ n) (hf : fullK l a k = false) : fullK l a n = false := by
  cases e : fullK l a n with
  | false => rfl
  | true =>
    rw [fullK_iff] at e
    have : fullK l a k = true := (fullK_iff l a k).2 (fun q h1 h2 => e q h1 (by omega))
    rw [hf] at this
    exact this.symm
set_option maxHeartbeats 1000000 in
theorem spec_give (w : World) (m : ByteArray) (a n : Int) :
    Calls Try.prog 40 #[.string m, .int .i64 a, .int .i64 n] w fun e w' => e = .returned (.tuple #[.string (outOf (giveOk m a n) m a n), .bool (giveOk m a n)]) ∧ Below w.heap.size w w' := by
  have HR : Hid (∀ w, _) := fun w => l6Run_any w m a n
  unfold giveOk
  cases hr : mapOk m && runOkB a n with
  | false =>
    rw [hr] at HR
    clear hr
    have HO : Hid (outOf (false && fullK m.data.toList a.toNat n.toNat) m a n = ⟨#[]⟩) := rfl
    go_enter Try.func40, Try.ntmps40
    go_wp2_with fail
    refine (HR.out _).mono ?_
    rintro e w1 ⟨rfl, hb1⟩
    go_wp2
    go_ret2
    exact ⟨by rw [HO.out]; rfl, hb1⟩
  | true =>
    rw [hr] at HR
    rw [Bool.and_eq_true] at hr
    obtain ⟨A, N, rfl, rfl, h128, hN⟩ := runOkB_nat hr.2
    have hms := mapOk_size hr.1
    have HBIT : Hid (∀ k : Nat, k < 128 → ∀ w, Calls Try.prog 54 #[.string m, .int .i64 (k : Int)] w fun e w' => e = .returned (.bool (bitAt m.data.toList k)) ∧ w = w') := fun k hk w => l6Bit_any m hms k hk w
    have HT : Hid (∀ w, _) := fun w => l6Turn_any m hms A N h128 w
    have hw1 : IntKind.i64.wrap ((A : Int) + N) = ((A + N : Nat) : Int) := by rw [IntKind.wrap_i64]; omega
    clear hr
    simp only [Int.toNat_natCast, Bool.true_and]
    have HO : Hid (∀ q, outOf q m A N = if q = true then ⟨(turnK m.data.toList A N).toArray⟩ else ⟨#[]⟩) := fun q => by simp [outOf, turned]
    generalize ByteArray.mk (turnK m.data.toList A N).toArray = st at HT HO
    generalize m.data.toList = l at *
    go_enter Try.func40, Try.ntmps40
    go_wp2_with fail
    refine (HR.out _).mono ?_
    rintro e w1 ⟨rfl, hb1⟩
    have HB1 : Hid (Below w.heap.size w w1) := hb1
    clear hb1
    go_wp2
    go_loop [8] (fun i => ∃ k : Nat, k ≤ N ∧ i = .int .i64 ((A + k : Nat) : Int) ∧ fullK l A k = true) (fun i => A + N - (intOf i).toNat)
    case atStart => exact ⟨0, Nat.zero_le _, rfl, rfl⟩
    case round =>
      obtain ⟨k, hk, rfl, hf⟩ := hrel
      by_cases hlt : k < N
      · have HS : Hid (fullK l A (k + 1) = bitAt l (A + k)) := by show fullK l A (k + 1) = _; rw [fullK, hf]; rfl
        have HLE : Hid (fullK l A (k + 1) = false → fullK l A N = false) := fullK_le l A (k + 1) N (by omega)
        obtain ⟨g, hg⟩ : ∃ g, g = A + k := ⟨_, rfl⟩
        have HG : Hid (g = A + k) := hg
        rw [← hg] at HS ⊢
        have HC : Hid (∀ w, _) := HBIT.out g (by omega)
        have e2 : (g : Int) < ((A + N : Nat) : Int) := by omega
        clear hg hf
        cases hb : bitAt l g with
        | false =>
          rw [hb] at HC HS
          have HF : Hid (fullK l A N = false) := HLE.out HS.out
          clear hb
          go_wp2_with fail
          refine (HC.out _).mono ?_
          rintro e w' ⟨rfl, rfl⟩
          go_wp2
          go_ret2
          exact ⟨by rw [HF.out, HO.out]; rfl, HB1.out⟩
        | true =>
          rw [hb] at HC HS
          clear hb
          go_wp2_with fail
          refine (HC.out _).mono ?_
          rintro e w' ⟨rfl, rfl⟩
          go_wp2
          refine ⟨⟨k + 1, by omega, by have := HG.out; go_num, by rw [HS.out]⟩, by simp [intOf]; omega⟩
      · have hk2 : k = N := by omega
        subst hk2
        have HF : Hid (fullK l A k = true) := hf
        clear hf
        have e2 : ¬ ((A + k : Nat) : Int) < ((A + k : Nat) : Int) := by omega
        go_wp2_with fail
        refine (HT.out _).mono ?_
        rintro e w2 ⟨rfl, hb2⟩
        go_wp2
        go_ret2
        exact ⟨by rw [HF.out, HO.out]; rfl, HB1.out.trans (hb2.mono HB1.out.size)⟩
def arrOf (m : ByteArray) : List UInt8 := if m.size = 64 then m.data.toList else zeros
theorem arrOf_length (m : ByteArray) : (arrOf m).length = 64 := by
  unfold arrOf
  split
  · simpa using ‹m.size = 64›
  · exact zeros_length
theorem readMap_any (m : ByteArray) (w : World) :
    Calls Try.prog 49 #[.string m] w fun e w' => e = .returned (.tuple #[.agg (cs (arrOf m)), .bool (mapOk m)]) ∧ Below w.heap.size w w' := by
  by_cases h : m.size = 64
  · have := readMap_yes m h w
    rw [arrOf, if_pos h]; exact this
  · have hno : mapOk m = false := by rw [mapOk, decide_eq_false h]; rfl
    rw [arrOf, if_neg h, hno]; exact readMap_no m h w
set_option maxHeartbeats 2000000 in
theorem impl_take (w : World) (m : ByteArray) (a n : Int) :
    Calls Try.prog 24 #[.string m, .int .i64 a, .int .i64 n] w fun e w' => e = .returned (.tuple #[.string (outOf (takeOk m a n) m a n), .bool (takeOk m a n)]) ∧ Below w.heap.size w w' := by
  have HRM : Hid (∀ w, _) := fun w => readMap_any m w
  have HRO : Hid (∀ w, _) := fun w => runOk_any w a n
  have hal := arrOf_length m
  unfold takeOk
  cases hm : mapOk m with
  | false =>
    rw [hm] at HRM
    clear hm
    have HO : Hid (outOf (false && runOkB a n && freeK m.data.toList a.toNat n.toNat) m a n = ⟨#[]⟩) := by rfl
    generalize arrOf m = x at HRM hal
    go_enter Try.func24, Try.ntmps24
    go_wp2_with fail
    refine (HRM.out _).mono ?_
    rintro e w1 ⟨rfl, hb1⟩
    go_wp2_with (refine wpList_storeNew _ rfl _ _ rfl rfl x rfl hal ?_)
    go_ret2
    exact ⟨by rw [HO.out]; rfl, hb1.alloc hb1.size _⟩
  | true =>
    rw [hm] at HRM
    have hms := mapOk_size hm
    rw [arrOf, if_pos hms] at HRM hal
    clear hm
    cases hr : runOkB a n with
    | false =>
      rw [hr] at HRO
      clear hr
      have HO : Hid (outOf (true && false && freeK m.data.toList a.toNat n.toNat) m a n = ⟨#[]⟩) := by rfl
      generalize m.data.toList = x at *
      go_enter Try.func24, Try.ntmps24
      go_wp2_with fail
      refine (HRM.out _).mono ?_
      rintro e w1 ⟨rfl, hb1⟩
      go_wp2_with (refine wpList_storeNew _ rfl _ _ rfl rfl x rfl hal ?_)
      refine (HRO.out _).mono ?_
      rintro e w' ⟨rfl, rfl⟩
      go_wp2
      go_ret2
      exact ⟨by rw [HO.out]; rfl, hb1.alloc hb1.size _⟩
    | true =>
      rw [hr] at HRO
      obtain ⟨A, N, rfl, rfl, h128, hN⟩ := runOkB_nat hr
      clear hr
      simp only [Int.toNat_natCast, Bool.true_and]
      have HO : Hid (∀ q, outOf q m A N = if q = true then ⟨(turnK m.data.toList A N).toArray⟩ else ⟨#[]⟩) := fun q => by simp [outOf, turned]
      have HRUN : Hid (∀ w, _) := fun w => run_any A N h128 w
      have hrl := runK_length A N
      have HAM : Hid (∀ w, _) := fun w => among_any m.data.toList (runK A N) hal hrl w
      have HWI : Hid (∀ w, _) := fun w => with_any m.data.toList (runK A N) hal hrl w
      have HWT : Hid (freeK m.data.toList A N = true → mix (· ||| ·) m.data.toList (runK A N) = turnK m.data.toList A N) := with_turn _ hal A N h128
      have hxl : (mix (· &&& ·) m.data.toList (runK A N)).length = 64 := by rw [mix_length]; exact hal
      have hyl : (mix (· ||| ·) m.data.toList (runK A N)).length = 64 := by rw [mix_length]; exact hal
      have heq := eq_any (mix (· &&& ·) m.data.toList (runK A N)) zeros hxl zeros_length
      rw [among_none _ hal A N h128, ← zlit_ag] at heq
      generalize mix (· &&& ·) m.data.toList (runK A N) = x at HAM heq hxl
      have HTX : Hid (∀ w, _) := fun w => text_any (mix (· ||| ·) m.data.toList (runK A N)) hyl w
      generalize mix (· ||| ·) m.data.toList (runK A N) = y at HWI HWT hyl HTX
      generalize runK A N = r at HRUN HAM HWI hrl
      generalize m.data.toList = l at *
      have HAL : Hid (l.length = 64) := hal
      have HRL : Hid (r.length = 64) := hrl
      clear hal hrl hxl hyl
      go_enter Try.func24, Try.ntmps24
      go_wp2_with fail
      refine (HRM.out _).mono ?_
      rintro e w1 ⟨rfl, hb1⟩
      have HB1 : Hid (Below w.heap.size w w1) := hb1
      clear hb1
      go_wp2_with (refine wpList_storeNew _ rfl _ _ rfl rfl l rfl HAL.out ?_)
      refine (HRO.out _).mono ?_
      rintro e w' ⟨rfl, rfl⟩
      go_wp2_with fail
      refine (HRUN.out _).mono ?_
      rintro e w3 ⟨rfl, hb3⟩
      have HL3 : Hid (Row w3 w1.heap.size l) := Row.below (heap_alloc_last w1 _) hb3 (by simp)
      have HB3 : Hid (Below w.heap.size w w3) := (HB1.out.alloc HB1.out.size _).trans (hb3.mono (HB1.out.alloc HB1.out.size _).size)
      have HS3 : Hid (w1.heap.size < w3.heap.size) := Nat.lt_of_lt_of_le (by simp) hb3.size
      clear hb3
      have HL4 : Hid (Row (w3.alloc (.cells (cs r) 56)) w1.heap.size l) := by show Row _ _ _; unfold Row; rw [Below.heap_alloc _ _ _ HS3.out]; exact HL3.out
      have HR4 : Hid (Row (w3.alloc (.cells (cs r) 56)) w3.heap.size r) := heap_alloc_last w3 _
      have HB4 : Hid (Below w.heap.size w (w3.alloc (.cells (cs r) 56))) := HB3.out.alloc HB3.out.size _
      go_wp2_with (first | (refine wpList_storeNew _ rfl _ _ rfl rfl r rfl HRL.out ?_) | (refine wpList_loadRow _ rfl _ rfl _ rfl l HL4.out HAL.out ?_) | (refine wpList_loadRow _ rfl _ rfl _ rfl r HR4.out HRL.out ?_))
      refine (HAM.out _).mono ?_
      rintro e w5 ⟨rfl, hb5⟩
      have HL5 : Hid (Row w5 w1.heap.size l) := HL4.out.below hb5 (by have := HS3.out; simp; omega)
      have HR5 : Hid (Row w5 w3.heap.size r) := HR4.out.below hb5 (by simp)
      have HB5 : Hid (Below w.heap.size w w5) := HB4.out.trans (hb5.mono HB4.out.size)
      clear hb5
      cases hf : freeK l A N with
      | false =>
        rw [hf] at heq
        have HF : Hid (freeK l A N = false) := hf
        clear hf
        go_wp2
        go_ret2
        exact ⟨by rw [HF.out, HO.out]; rfl, HB5.out⟩
      | true =>
        rw [hf] at heq
        have HWT' : Hid (y = turnK l A N) := HWT.out hf
        have HF : Hid (freeK l A N = true) := hf
        clear hf
        go_wp2_with (first | (refine wpList_loadRow _ rfl _ rfl _ rfl l HL5.out HAL.out ?_) | (refine wpList_loadRow _ rfl _ rfl _ rfl r HR5.out HRL.out ?_))
        refine (HWI.out _).mono ?_
        rintro e w6 ⟨rfl, hb6⟩
        go_wp2_with fail
        refine (HTX.out _).mono ?_
        rintro e w7 ⟨rfl, hb7⟩
        have HB7 : Hid (Below w.heap.size w w7) := (HB5.out.trans (hb6.mono HB5.out.size)).trans (hb7.mono (HB5.out.trans (hb6.mono HB5.out.size)).size)
        clear hb6 hb7
        go_wp2
        go_ret2
        exact ⟨by rw [HF.out, HO.out, HWT'.out]; rfl, HB7.out⟩
set_option maxHeartbeats 2000000 in
theorem impl_give (w : World) (m : ByteArray) (a n : Int) :
    Calls Try.prog 26 #[.string m, .int .i64 a, .int .i64 n] w fun e w' => e = .returned (.tuple #[.string (outOf (giveOk m a n) m a n), .bool (giveOk m a n)]) ∧ Below w.heap.size w w' := by
  have HRM : Hid (∀ w, _) := fun w => readMap_any m w
  have HRO : Hid (∀ w, _) := fun w => runOk_any w a n
  have hal := arrOf_length m
  unfold giveOk
  cases hm : mapOk m with
  | false =>
    rw [hm] at HRM
    clear hm
    have HO : Hid (outOf (false && runOkB a n && fullK m.data.toList a.toNat n.toNat) m a n = ⟨#[]⟩) := by rfl
    generalize arrOf m = x at HRM hal
    go_enter Try.func26, Try.ntmps26
    go_wp2_with fail
    refine (HRM.out _).mono ?_
    rintro e w1 ⟨rfl, hb1⟩
    go_wp2_with (refine wpList_storeNew _ rfl _ _ rfl rfl x rfl hal ?_)
    go_ret2
    exact ⟨by rw [HO.out]; rfl, hb1.alloc hb1.size _⟩
  | true =>
    rw [hm] at HRM
    have hms := mapOk_size hm
    rw [arrOf, if_pos hms] at HRM hal
    clear hm
    cases hr : runOkB a n with
    | false =>
      rw [hr] at HRO
      clear hr
      have HO : Hid (outOf (true && false && fullK m.data.toList a.toNat n.toNat) m a n = ⟨#[]⟩) := by rfl
      generalize m.data.toList = x at *
      go_enter Try.func26, Try.ntmps26
      go_wp2_with fail
      refine (HRM.out _).mono ?_
      rintro e w1 ⟨rfl, hb1⟩
      go_wp2_with (refine wpList_storeNew _ rfl _ _ rfl rfl x rfl hal ?_)
      refine (HRO.out _).mono ?_
      rintro e w' ⟨rfl, rfl⟩
      go_wp2
      go_ret2
      exact ⟨by rw [HO.out]; rfl, hb1.alloc hb1.size _⟩
    | true =>
      rw [hr] at HRO
      obtain ⟨A, N, rfl, rfl, h128, hN⟩ := runOkB_nat hr
      clear hr
      simp only [Int.toNat_natCast, Bool.true_and]
      have HO : Hid (∀ q, outOf q m A N = if q = true then ⟨(turnK m.data.toList A N).toArray⟩ else ⟨#[]⟩) := fun q => by simp [outOf, turned]
      have HRUN : Hid (∀ w, _) := fun w => run_any A N h128 w
      have hrl := runK_length A N
      have HAM : Hid (∀ w, _) := fun w => among_any m.data.toList (runK A N) hal hrl w
      have HWI : Hid (∀ w, _) := fun w => without_any m.data.toList (runK A N) hal hrl w
      have HWT : Hid (fullK m.data.toList A N = true → mix (fun x y => x &&& ~~~y) m.data.toList (runK A N) = turnK m.data.toList A N) := without_turn _ hal A N h128
      have hxl : (mix (· &&& ·) m.data.toList (runK A N)).length = 64 := by rw [mix_length]; exact hal
      have hyl : (mix (fun x y => x &&& ~~~y) m.data.toList (runK A N)).length = 64 := by rw [mix_length]; exact hal
      have heq := eq_any (mix (· &&& ·) m.data.toList (runK A N)) (runK A N) hxl hrl
      rw [among_run _ hal A N h128] at heq
      generalize mix (· &&& ·) m.data.toList (runK A N) = x at HAM heq hxl
      have HTX : Hid (∀ w, _) := fun w => text_any (mix (fun x y => x &&& ~~~y) m.data.toList (runK A N)) hyl w
      generalize mix (fun x y => x &&& ~~~y) m.data.toList (runK A N) = y at HWI HWT hyl HTX
      generalize runK A N = r at HRUN HAM HWI hrl heq
      generalize m.data.toList = l at *
      have HAL : Hid (l.length = 64) := hal
      have HRL : Hid (r.length = 64) := hrl
      clear hal hrl hxl hyl
      go_enter Try.func26, Try.ntmps26
      go_wp2_with fail
      refine (HRM.out _).mono ?_
      rintro e w1 ⟨rfl, hb1⟩
      have HB1 : Hid (Below w.heap.size w w1) := hb1
      clear hb1
      go_wp2_with (refine wpList_storeNew _ rfl _ _ rfl rfl l rfl HAL.out ?_)
      refine (HRO.out _).mono ?_
      rintro e w' ⟨rfl, rfl⟩
      go_wp2_with fail
      refine (HRUN.out _).mono ?_
      rintro e w3 ⟨rfl, hb3⟩
      have HL3 : Hid (Row w3 w1.heap.size l) := Row.below (heap_alloc_last w1 _) hb3 (by simp)
      have HB3 : Hid (Below w.heap.size w w3) := (HB1.out.alloc HB1.out.size _).trans (hb3.mono (HB1.out.alloc HB1.out.size _).size)
      have HS3 : Hid (w1.heap.size < w3.heap.size) := Nat.lt_of_lt_of_le (by simp) hb3.size
      clear hb3
      have HL4 : Hid (Row (w3.alloc (.cells (cs r) 56)) w1.heap.size l) := by show Row _ _ _; unfold Row; rw [Below.heap_alloc _ _ _ HS3.out]; exact HL3.out
      have HR4 : Hid (Row (w3.alloc (.cells (cs r) 56)) w3.heap.size r) := heap_alloc_last w3 _
      have HB4 : Hid (Below w.heap.size w (w3.alloc (.cells (cs r) 56))) := HB3.out.alloc HB3.out.size _
      go_wp2_with (refine wpList_storeNew _ rfl _ _ rfl rfl r rfl HRL.out ?_)
      have HQ : Hid (∀ w', Below (w3.alloc (.cells (cs r) 56)).heap.size (w3.alloc (.cells (cs r) 56)) w' → Row w' w1.heap.size l ∧ Row w' w3.heap.size r) := fun w' h => ⟨HL4.out.below h (by have := HS3.out; simp; omega), HR4.out.below h (by simp)⟩
      obtain ⟨w4, hw4⟩ : ∃ w4, w4 = w3.alloc (.cells (cs r) 56) := ⟨_, rfl⟩
      rw [← hw4] at HQ HL4 HR4 HB4 ⊢
      clear hw4
      refine wp_region_held_drew (S := fun w' => Row w' w1.heap.size l ∧ Row w' w3.heap.size r) (by kernel_rfl) (HQ.out _ ((Below.refl _ _).drew)) (fun hH => ?_)
      refine wpAnyH_take (i := 0) rfl (by kernel_rfl) (by kernel_rfl) (by kernel_rfl) (fun _ _ _ h => h) (yields_row rfl _ rfl _ rfl l (fun _ h => h.1) HAL.out) hH ?_
      refine wpAnyH_take (i := 1) rfl (by kernel_rfl) (by kernel_rfl) (by kernel_rfl) (fun _ _ _ h => h) (yields_row rfl _ rfl _ rfl r (fun _ h => h.2) HRL.out) hH ?_
      refine wpAnyH_take (i := 3) rfl (by kernel_rfl) (by kernel_rfl) (by kernel_rfl) (fun _ _ _ h => h) (yields_row rfl _ rfl _ rfl r (fun _ h => h.2) HRL.out) hH ?_
      refine wpAnyH_ready (rs := [2]) (by kernel_rfl) (by simp) ?_
      refine AllReadyH.cons rfl (fun K hK => ?_) AllReadyH.nil
      rw [if_pos (by rfl)]
      clear hH
      go_simp
      refine (HAM.out _).mono ?_
      rintro e w5 ⟨rfl, hb5⟩
      have h5 : Below w4.heap.size w4 w5 := ⟨hb5.os, hb5.tape, hb5.output, hb5.size, hb5.block⟩
      have HL5 : Hid (Row w5 w1.heap.size l) := (HQ.out _ h5).1
      have HR5 : Hid (Row w5 w3.heap.size r) := (HQ.out _ h5).2
      have HB5 : Hid (Below w.heap.size w w5) := HB4.out.trans (h5.mono HB4.out.size)
      refine hK.out _ _ (HQ.out _ h5) (fun hH => ?_)
      clear hK K hb5 h5
      refine wpAnyH_take (i := 4) rfl (by kernel_rfl) (by kernel_rfl) (by kernel_rfl) (fun _ _ _ h => h) (v := .bool (!fullK l A N)) (Or.inl ⟨by rfl, fun w _ => by go_simp⟩) hH ?_
      refine wpAnyH_done (by kernel_rfl) ?_ _
      clear hH heq
      cases hf : fullK l A N with
      | false =>
        have HF : Hid (fullK l A N = false) := hf
        clear hf
        go_wp2
        go_ret2
        exact ⟨by rw [HF.out, HO.out]; rfl, HB5.out⟩
      | true =>
        have HWT' : Hid (y = turnK l A N) := HWT.out hf
        have HF : Hid (fullK l A N = true) := hf
        clear hf
        go_wp2_with (first | (refine wpList_loadRow _ rfl _ rfl _ rfl l HL5.out HAL.out ?_) | (refine wpList_loadRow _ rfl _ rfl _ rfl r HR5.out HRL.out ?_))
        refine (HWI.out _).mono ?_
        rintro e w6 ⟨rfl, hb6⟩
        go_wp2_with fail
        refine (HTX.out _).mono ?_
        rintro e w7 ⟨rfl, hb7⟩
        have HB7 : Hid (Below w.heap.size w w7) := (HB5.out.trans (hb6.mono HB5.out.size)).trans (hb7.mono (HB5.out.trans (hb6.mono HB5.out.size)).size)
        clear hb6 hb7
        go_wp2
        go_ret2
        exact ⟨by rw [HF.out, HO.out, HWT'.out]; rfl, HB7.out⟩
end Go.Proofs.Ytkckhklllcggeaa.lb
