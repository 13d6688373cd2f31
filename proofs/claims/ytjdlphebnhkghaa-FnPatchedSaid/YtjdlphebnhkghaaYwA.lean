/-
  Words of an image, and whether it is one; by the program and by the specification.
-/
import Derived.Test.YtjdlphebnhkghaaIn
import Derived.Test.YtjdlphebnhkghaaNum
import Derived.Test.YtjdlphebnhkghaaRef3
import Derived.Test.YtjdlphebnhkghaaSetOk
namespace Go.Proofs.Ytjdlphebnhkghaa.yw
open Go.RowKit
open wmath num ints ref

def wAt (s : ByteArray) (p : Nat) : Int := wrap64 (num (s.extract p (p + 8)).data.toList)
theorem wAt_wf (s : ByteArray) (p : Nat) : (Lit.int .i64 (wAt s p)).wf = true := by
  unfold wAt wrap64
  simp only [Lit.wf, IntKind.min, IntKind.max, IntKind.signed, IntKind.bits, Bool.and_eq_true, decide_eq_true_eq, if_true]
  omega
theorem wAt_lt (s : ByteArray) (p : Nat) : wAt s p < 9223372036854775808 := by
  unfold wAt wrap64
  omega
def imgB (s : ByteArray) : Bool := decide ((s.size : Int) % 64 = 0) && (decide (1 ≤ (s.size : Int) / 64) && decide ((s.size : Int) / 64 ≤ 128))
theorem wordAt_any (w : World) (s : ByteArray) (p : Nat) (hs : s.size ≤ 1048576) (h : 8 * p + 8 ≤ s.size) :
    Calls Try.prog 61 #[.string s, .int .i64 (p : Int)] w fun e w' => e = .returned (.int .i64 (wAt s (8 * p))) ∧ w' = w := by
  have h1 : 8 * (p : Int) + 8 ≤ (s.size : Int) := by omega
  have HE : Hid (wAt s (8 * p) = wrap64 (num (s.extract (p * 8) ((p + 1) * 8)).data.toList)) := by show wAt s (8 * p) = _; unfold wAt; rw [Nat.mul_comm 8 p, show (p + 1) * 8 = p * 8 + 8 by omega]
  have HC : Hid (∀ w, Calls _ _ _ w _) := fun w => numberOf_any (s.extract (p * 8) ((p + 1) * 8)) w (by rw [ByteArray.size_extract]; omega)
  generalize wAt s (8 * p) = r at HE ⊢
  generalize num (s.extract (p * 8) ((p + 1) * 8)).data.toList = m at HE HC
  go_enter Try.func61, Try.ntmps61
  go_wp2_with fail
  refine (HC.out w).mono ?_
  rintro e w1 ⟨rfl, rfl⟩
  go_wp2
  go_ret
  rw [HE.out]
  exact ⟨rfl, rfl⟩
set_option maxHeartbeats 400000 in
theorem spec_eight (s : ByteArray) (w : World) (hs : s.size = 8) :
    Calls Try.prog 65 #[.string s] w fun e w' => e = .returned (.tuple #[.int .i64 (wrap64 (num s.data.toList)), .bool true]) ∧ w' = w := by
  have h2 : ((s.size : Int) != 8) = false := by simp; omega
  have HS : Hid (s.size = 8) := hs
  have hle : s.size ≤ 8 := by omega
  have hge : 8 ≤ s.size := by omega
  clear hs
  go_enter Try.func65, Try.ntmps65
  go_wp2
  go_loop [4, 5] (fun n i => ∃ k : Nat, k ≤ 8 ∧ i = .int .i64 k ∧ n = .int .u64 (num (s.data.toList.take k))) (fun _ i => 8 - (intOf i).toNat)
  case atStart => exact ⟨0, Nat.zero_le _, rfl, rfl⟩
  case round =>
    obtain ⟨k, hk, rfl, rfl⟩ := hrel
    by_cases hlt : k < 8
    · have hm : num (s.data.toList.take k) < 72057594037927936 :=
        Nat.lt_of_lt_of_le (num_take_lt s k) (Nat.le_trans (Nat.pow_le_pow_right (by decide) (show k ≤ 7 by omega)) (by decide))
      have hks : k < s.size := by omega
      have HN : Hid (num (s.data.toList.take (k + 1)) = num (s.data.toList.take k) * 256 + s[k].toNat) := num_take s k hks
      generalize num (s.data.toList.take k) = m at hm HN ⊢
      go_wp2
      refine ⟨⟨k + 1, by omega, by go_num, ?_⟩, by simp [intOf]; omega⟩
      rw [HN.out, shl_or m _ hm s[k].toNat_lt]
    · have he : num (s.data.toList.take k) = num s.data.toList := by rw [List.take_of_length_le (by simp; omega)]
      have HE : Hid (num (s.data.toList.take k) = num s.data.toList) := he
      clear he
      go_wp2
      go_ret2
      refine ⟨?_, rfl⟩
      show Ending.returned (.tuple #[.int .i64 (wrap64 (num (s.data.toList.take k))), .bool true]) = _
      rw [HE.out]
theorem l9Word_any (w : World) (s : ByteArray) (p : Nat) (hs : s.size ≤ 1048576) (h : 8 * p + 8 ≤ s.size) :
    Calls Try.prog 44 #[.string s, .int .i64 (p : Int)] w fun e w' => e = .returned (.int .i64 (wAt s (8 * p))) ∧ w' = w := by
  have h1 : 8 * (p : Int) + 8 ≤ (s.size : Int) := by omega
  have HC : Hid (∀ w, Calls _ _ _ w _) := fun w => spec_eight (s.extract (8 * p) (8 * p + 8)) w (by rw [ByteArray.size_extract]; omega)
  have HE : Hid (wAt s (8 * p) = wrap64 (num (s.extract (8 * p) (8 * p + 8)).data.toList)) := rfl
  rw [← HE.out] at HC
  generalize wAt s (8 * p) = r at HC ⊢
  go_enter Try.func44, Try.ntmps44
  go_wp2_with fail
  refine (HC.out w).mono ?_
  rintro e w1 ⟨rfl, rfl⟩
  go_wp2
  go_ret
  exact ⟨rfl, rfl⟩
theorem l9Image_any (w : World) (s : ByteArray) (hs : s.size ≤ 1048576) :
    Calls Try.prog 43 #[.string s] w fun e w' => e = .returned (.bool (imgB s)) ∧ w' = w := by
  have HC : Hid (∀ w, Calls Try.prog 39 #[.int .i64 ((s.size : Int) / 64), .int .i64 1, .int .i64 128] w fun e w' => e = .returned (.bool (decide (1 ≤ (s.size : Int) / 64) && decide ((s.size : Int) / 64 ≤ 128))) ∧ w = w') := fun w => specIn_any w ((s.size : Int) / 64) 1 128
  have HD : Hid (imgB s = (decide ((s.size : Int) % 64 = 0) && (decide (1 ≤ (s.size : Int) / 64) && decide ((s.size : Int) / 64 ≤ 128)))) := rfl
  generalize imgB s = r at HD ⊢
  generalize (decide (1 ≤ (s.size : Int) / 64) && decide ((s.size : Int) / 64 ≤ 128)) = q at HC HD
  by_cases h0 : (s.size : Int) % 64 = 0
  · have e0 : ((s.size : Int) % 64 == 0) = true := by simpa using h0
    rw [decide_eq_true h0] at HD
    clear h0
    go_enter Try.func43, Try.ntmps43
    go_wp2_with fail
    refine (HC.out w).mono ?_
    rintro e w1 ⟨rfl, rfl⟩
    go_wp2
    go_ret
    rw [HD.out]
    exact ⟨rfl, rfl⟩
  · have e0 : ((s.size : Int) % 64 == 0) = false := by simpa using h0
    rw [decide_eq_false h0] at HD
    clear h0
    go_enter Try.func43, Try.ntmps43
    go_wp2
    go_ret
    rw [HD.out]
    exact ⟨rfl, rfl⟩
theorem lineCount_at (w : World) (s : ByteArray) (hs : s.size ≤ 1048576) :
    Calls Try.prog 73 #[.agg #[.string s, .slice none 0 0]] w fun e w' => e = .returned (.int .i64 ((s.size : Int) / 64)) ∧ Below w.heap.size w w' := by
  have h1 : (0 : Int) ≤ (s.size : Int) / 64 := by omega
  go_enter Try.func73, Try.ntmps73
  go_wp2
  go_ret
  exact ⟨rfl, by go_grown⟩
set_option maxHeartbeats 1000000 in
theorem deviceOk_at (w : World) (s : ByteArray) (hs : s.size ≤ 1048576) :
    Calls Try.prog 58 #[.agg #[.string s, .slice none 0 0]] w fun e w' => e = .returned (.bool (imgB s)) ∧ Below w.heap.size w w' := by
  obtain ⟨W, hW⟩ : ∃ W, W = w.alloc (.cells #[.string s, .slice none 0 0] 78) := ⟨_, rfl⟩
  have HW : Hid (W = w.alloc (.cells #[.string s, .slice none 0 0] 78)) := hW
  have hb0 : Below w.heap.size w W := by rw [hW]; exact (Below.refl _ _).alloc (Nat.le_refl _) _
  have HB0 : Hid (Below w.heap.size w W) := hb0
  have hsz : w.heap.size < W.heap.size := by rw [hW]; simp
  have k0 : W.cell? ⟨w.heap.size, 0, none⟩ = some (.string s) := by rw [hW, World.cell?_alloc_new]; rfl
  have k1 : W.cell? ⟨w.heap.size, 1, none⟩ = some (.slice none 0 0) := by rw [hW, World.cell?_alloc_new]; rfl
  have HCS : Hid (∀ w', Below W.heap.size W w' → w'.cell? ⟨w.heap.size, 0, none⟩ = some (.string s) ∧ w'.cell? ⟨w.heap.size, 1, none⟩ = some (.slice none 0 0)) := fun w' h =>
    ⟨by rw [h.cell (p := ⟨w.heap.size, 0, none⟩) hsz]; exact k0, by rw [h.cell (p := ⟨w.heap.size, 1, none⟩) hsz]; exact k1⟩
  have HC : Hid (∀ w, Calls _ _ _ w _) := fun w => lineCount_at w s hs
  have HD : Hid (imgB s = (decide ((s.size : Int) % 64 = 0) && (decide (1 ≤ (s.size : Int) / 64) && decide ((s.size : Int) / 64 ≤ 128)))) := rfl
  generalize imgB s = r at HD ⊢
  have m0 := k0
  have m1 := k1
  clear hW hb0 k0 k1 hsz
  by_cases h0 : (s.size : Int) % 64 = 0
  case neg =>
    have e0 : ((s.size : Int) % 64 != 0) = true := by simpa using h0
    rw [decide_eq_false h0] at HD
    clear h0
    go_enter Try.func58, Try.ntmps58
    go_wp2_with (rw [← HW.out])
    go_ret
    exact ⟨by rw [HD.out]; rfl, HB0.out⟩
  case pos =>
  have e0 : ((s.size : Int) % 64 != 0) = false := by simpa using h0
  rw [decide_eq_true h0] at HD
  have hq0 : (0 : Int) ≤ (s.size : Int) / 64 := by omega
  clear h0
  generalize (s.size : Int) / 64 = q at HC HD hq0
  by_cases h1 : q < 1
  · have HR : Hid (r = false) := by show r = false; rw [HD.out, decide_eq_false (by omega : ¬ 1 ≤ q)]; rfl
    go_enter Try.func58, Try.ntmps58
    go_wp2_with fail
    rw [← HW.out]
    refine (HC.out _).mono ?_
    rintro e w1 ⟨rfl, hb1⟩
    have HB1 : Hid (Below w.heap.size w w1) := HB0.out.trans (hb1.mono HB0.out.size)
    clear hb1
    go_wp2
    go_ret
    exact ⟨by rw [HR.out]; rfl, HB1.out⟩
  · by_cases h2 : 128 < q
    · have HR : Hid (r = false) := by show r = false; rw [HD.out, decide_eq_false (by omega : ¬ q ≤ 128)]; simp
      go_enter Try.func58, Try.ntmps58
      go_wp2_with fail
      rw [← HW.out]
      refine (HC.out _).mono ?_
      rintro e w1 ⟨rfl, hb1⟩
      have HB1 : Hid (Below W.heap.size W w1) := hb1
      clear m0 m1
      obtain ⟨m0, m1⟩ := HCS.out w1 hb1
      clear hb1
      go_wp2_with fail
      refine (HC.out _).mono ?_
      rintro e w2 ⟨rfl, hb2⟩
      have HB2 : Hid (Below w.heap.size w w2) := HB0.out.trans ((HB1.out.trans (hb2.mono HB1.out.size)).mono HB0.out.size)
      clear hb2
      go_wp2
      go_ret
      exact ⟨by rw [HR.out]; rfl, HB2.out⟩
    · have HR : Hid (r = true) := by show r = true; rw [HD.out, decide_eq_true (by omega : 1 ≤ q), decide_eq_true (by omega : q ≤ 128)]; rfl
      go_enter Try.func58, Try.ntmps58
      go_wp2_with fail
      rw [← HW.out]
      refine (HC.out _).mono ?_
      rintro e w1 ⟨rfl, hb1⟩
      have HB1 : Hid (Below W.heap.size W w1) := hb1
      clear m0 m1
      obtain ⟨m0, m1⟩ := HCS.out w1 hb1
      clear hb1
      go_wp2_with fail
      refine (HC.out _).mono ?_
      rintro e w2 ⟨rfl, hb2⟩
      have HB2 : Hid (Below W.heap.size W w2) := HB1.out.trans (hb2.mono HB1.out.size)
      have HE2 : Hid (Below w.heap.size w w2) := HB0.out.trans (HB2.out.mono HB0.out.size)
      clear m0 m1
      obtain ⟨m0, m1⟩ := HCS.out w2 HB2.out
      clear hb2
      go_wp2
      go_loopw [24] (fun i wr => i = .int .i64 0 ∧ wr = w2) (fun _ _ => 0)
      case atStart => exact ⟨rfl, rfl⟩
      case round =>
        obtain ⟨rfl, rfl⟩ := hrel
        go_wp2
        go_ret
        exact ⟨by rw [HR.out]; rfl, HE2.out⟩
end Go.Proofs.Ytjdlphebnhkghaa.yw
