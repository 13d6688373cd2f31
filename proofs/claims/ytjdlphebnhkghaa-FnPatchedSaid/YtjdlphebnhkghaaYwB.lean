/-
  YoungWords, by the specification.
-/
import Derived.Test.YtjdlphebnhkghaaYwA
import Derived.Deep.WholeRow
namespace Go.Proofs.Ytjdlphebnhkghaa.yw
open Go.RowKit
open wmath num ints ref

/-- The word that the k-th number of a set names. -/
def wOf (s : ByteArray) (xs : List Int) (k : Nat) : Int := wAt s (8 * (xs.getD k 0).toNat)
def ywB (s : ByteArray) (xs : List Int) : Nat → Bool
  | 0 => true
  | k + 1 => ywB s xs k && (decide (8 * xs.getD k 0 + 8 ≤ (s.size : Int)) && decide (refKind (wOf s xs k) = 2))
theorem ywB_le (s : ByteArray) (xs : List Int) (k n : Nat) (hk : k ≤ n) (hf : ywB s xs k = false) : ywB s xs n = false := by
  induction n with
  | zero => rw [show k = 0 by omega] at hf; exact hf
  | succ n ih =>
    by_cases e : k = n + 1
    · rw [← e]; exact hf
    · rw [ywB, ih (by omega)]; rfl
def ywK (s : ByteArray) (xs : List Int) : Nat → List Int
  | 0 => []
  | k + 1 => ywK s xs k ++ [wOf s xs k]
theorem ywK_len (s : ByteArray) (xs : List Int) (k : Nat) : (ywK s xs k).length = k := by
  induction k with
  | zero => rfl
  | succ k ih => rw [ywK, List.length_append, ih]; rfl
def ywOk (s : ByteArray) (xs : List Int) : Bool := riseN xs 1023 xs.length && (imgB s && ywB s xs xs.length)
def ywL (s : ByteArray) (xs : List Int) : List Int := if ywOk s xs = true then ywK s xs xs.length else []
theorem ywL_len (s : ByteArray) (xs : List Int) (h : xs.length ≤ 1048576) : (ywL s xs).length ≤ 1048576 := by
  unfold ywL
  split
  · rw [ywK_len]; exact h
  · simp
/-- What YoungWords answers. -/
def YwAns (s : ByteArray) (xs : List Int) (w : World) (e : Ending) (w' : World) : Prop :=
  ∃ v, e = .returned (.tuple #[v, .bool (ywOk s xs)]) ∧ w'.ownsRow w.heap.size 2 1 v (ywL s xs).length ((ywL s xs).map (Value.int .i64)) ∧ Below w.heap.size w w'
theorem yw_no {s : ByteArray} {xs : List Int} {w w' : World} (h : ywOk s xs = false) (hb : Below w.heap.size w w') : YwAns s xs w (.returned (.tuple #[.slice none 0 0, .bool false])) w' := by
  refine ⟨.slice none 0 0, by rw [h], ?_, hb⟩
  unfold ywL
  rw [h, if_neg (by decide)]
  exact ⟨rfl, .inl ⟨rfl, rfl⟩⟩
theorem yw_yes {s : ByteArray} {xs : List Int} {w w' : World} {v : Value} (h : ywOk s xs = true) (hown : w'.ownsRow w.heap.size 2 1 v (ywK s xs xs.length).length ((ywK s xs xs.length).map (Value.int .i64))) (hb : Below w.heap.size w w') : YwAns s xs w (.returned (.tuple #[v, .bool true])) w' := by
  refine ⟨v, by rw [h], ?_, hb⟩
  unfold ywL
  rw [h, if_pos rfl]
  exact hown
set_option maxHeartbeats 2000000 in
set_option maxRecDepth 20000 in
theorem spec_young (w : World) (s : ByteArray) (a : Option Addr) (cap : Nat) (xs : List Int) (hs : s.size ≤ 1048576) (hn : xs.length ≤ 1048576) (hl : Nums w a xs) :
    Calls Try.prog 14 #[.string s, .slice a xs.length cap] w fun e w' => YwAns s xs w e w' ∧ Below w.heap.size w w' := by
  have HN : Hid (∀ w', Below w.heap.size w w' → Nums w' a xs) := fun w' h => hl.below h
  have HOK : Hid (∀ w', w' = w → Calls _ _ _ w' _) := fun w' q => spec_setok w' a cap xs hn (q ▸ hl)
  have HIM : Hid (∀ w, Calls _ _ _ w _) := fun w => l9Image_any w s hs
  have HIN : Hid (riseN xs 1023 xs.length = true → ∀ k, k < xs.length → 0 ≤ xs.getD k 0 ∧ xs.getD k 0 ≤ 1023) := fun h k hk => riseN_in xs 1023 h k hk
  have HNO : Hid (ywOk s xs = false → ∀ w', Below w.heap.size w w' → YwAns s xs w (.returned (.tuple #[.slice none 0 0, .bool false])) w') := fun h w' hb => yw_no h hb
  have HYES : Hid (ywOk s xs = true → ∀ w' v, w'.ownsRow w.heap.size 2 1 v (ywK s xs xs.length).length ((ywK s xs xs.length).map (Value.int .i64)) → Below w.heap.size w w' → YwAns s xs w (.returned (.tuple #[v, .bool true])) w') := fun h w' v ho hb => yw_yes h ho hb
  have HD : Hid (ywOk s xs = (riseN xs 1023 xs.length && (imgB s && ywB s xs xs.length))) := rfl
  generalize YwAns s xs w = P at HNO HYES ⊢
  generalize ywOk s xs = ok at HD HNO HYES
  clear hl
  cases hr : riseN xs 1023 xs.length with
  | false =>
    rw [hr] at HOK HD
    have HR : Hid (ok = false) := by show ok = false; rw [HD.out]; rfl
    clear hr HD
    go_enter Try.func14, Try.ntmps14
    go_wp2_with fail
    refine (HOK.out w rfl).mono ?_
    rintro e w2 ⟨rfl, hb2⟩
    have HB2 : Hid (Below w.heap.size w w2) := hb2
    clear hb2
    go_wp2
    go_ret2
    exact ⟨HNO.out HR.out _ HB2.out, HB2.out⟩
  | true =>
  rw [hr] at HOK HD
  have HI2 : Hid (∀ k, k < xs.length → 0 ≤ xs.getD k 0 ∧ xs.getD k 0 ≤ 1023) := HIN.out hr
  clear hr HIN
  cases him : imgB s with
  | false =>
    rw [him] at HIM HD
    have HR : Hid (ok = false) := by show ok = false; rw [HD.out]; rfl
    clear him HD
    go_enter Try.func14, Try.ntmps14
    go_wp2_with fail
    refine (HOK.out w rfl).mono ?_
    rintro e w2 ⟨rfl, hb2⟩
    have HB2 : Hid (Below w.heap.size w w2) := hb2
    clear hb2
    go_wp2_with fail
    refine (HIM.out w2).mono ?_
    rintro e w3 ⟨rfl, rfl⟩
    go_wp2
    go_ret2
    exact ⟨HNO.out HR.out _ HB2.out, HB2.out⟩
  | true =>
  rw [him] at HIM HD
  have HR : Hid (ok = ywB s xs xs.length) := by show ok = _; rw [HD.out]; rfl
  clear him HD
  go_enter Try.func14, Try.ntmps14
  go_wp2_with fail
  refine (HOK.out w rfl).mono ?_
  rintro e w2 ⟨rfl, hb2⟩
  have HB2 : Hid (Below w.heap.size w w2) := hb2
  clear hb2
  go_wp2_with fail
  refine (HIM.out w2).mono ?_
  rintro e w3 ⟨rfl, hw3⟩
  subst hw3
  obtain ⟨X, hX⟩ : ∃ X, X = w3.alloc (.cells #[] 2) := ⟨_, rfl⟩
  have HX : Hid (X = w3.alloc (.cells #[] 2)) := hX
  have HBX : Hid (Below w.heap.size w X) := by
    have h1 : Below w.heap.size w X := by rw [hX]; exact HB2.out.alloc HB2.out.size _
    exact h1
  have HO0 : Hid (X.ownsRow w.heap.size 2 1 (.slice (some ⟨w3.heap.size, 0, none⟩) 0 0) (ywK s xs 0).length ((ywK s xs 0).map (Value.int .i64))) := ⟨rfl, .inr ⟨w3.heap.size, 0, #[], rfl, HB2.out.size, by rw [hX]; exact heap_alloc_last w3 _, Nat.le_refl _, Nat.zero_le _, rfl, rfl⟩⟩
  clear hX
  go_wp2
  rw [← HX.out]
  go_loopw [6, 7] (fun v i wr => ∃ k : Nat, k ≤ xs.length ∧ i = .int .i64 (k : Int) ∧ ywB s xs k = true ∧ wr.ownsRow w.heap.size 2 1 v (ywK s xs k).length ((ywK s xs k).map (Value.int .i64)) ∧ Below w.heap.size w wr) (fun _ i _ => xs.length - (intOf i).toNat)
  case atStart => exact ⟨0, Nat.zero_le _, rfl, rfl, HO0.out, HBX.out⟩
  case round =>
    obtain ⟨k, hk, rfl, hok, hown, hb⟩ := hrel
    have HO : Hid (wr.ownsRow w.heap.size 2 1 u6 (ywK s xs k).length ((ywK s xs k).map (Value.int .i64))) := hown
    have HB : Hid (Below w.heap.size w wr) := hb
    have HYB : Hid (ywB s xs k = true) := hok
    clear hown hb hok
    by_cases hlt : k < xs.length
    · have hlti : (k : Int) < (xs.length : Int) := by omega
      have hk0 : (0 : Int) ≤ (k : Int) := by omega
      obtain ⟨b2, off, rfl, c0⟩ := HN.out wr HB.out k hlt
      rw [getD_intI xs k hlt] at c0
      obtain ⟨hx0, hx1⟩ := HI2.out k hlt
      have HT : Hid (ywB s xs (k + 1) = (ywB s xs k && (decide (8 * xs.getD k 0 + 8 ≤ (s.size : Int)) && decide (refKind (wAt s (8 * (xs.getD k 0).toNat)) = 2)))) := rfl
      have HK1 : Hid (ywK s xs (k + 1) = ywK s xs k ++ [wAt s (8 * (xs.getD k 0).toNat)]) := rfl
      have hll := ywK_len s xs k
      generalize xs.getD k 0 = x at c0 HT HK1 hx0 hx1
      obtain ⟨q, rfl⟩ := Int.eq_ofNat_of_zero_le hx0
      rw [Int.toNat_natCast] at HT HK1
      generalize ywK s xs k = L at HO HK1 hll
      have HLK : Hid (L.length ≤ 1048576) := by show L.length ≤ _; omega
      clear hx0 hll
      by_cases hfit : 8 * q + 8 ≤ s.size
      case neg =>
        have hgt : (s.size : Int) < 8 * (q : Int) + 8 := by omega
        have HR2 : Hid (ok = false) := by
          show ok = false
          rw [HR.out]; exact ywB_le s xs (k + 1) _ (by omega) (by rw [HT.out, decide_eq_false (by omega : ¬ 8 * (q : Int) + 8 ≤ (s.size : Int))]; simp)
        clear hfit
        go_wp2
        go_ret2
        exact ⟨HNO.out HR2.out _ HB.out, HB.out⟩
      case pos =>
      have hgt : ¬ (s.size : Int) < 8 * (q : Int) + 8 := by omega
      have HW9 : Hid (∀ w, Calls _ _ _ w _) := fun w => l9Word_any w s q hs hfit
      have HRK : Hid (∀ w, Calls _ _ _ w _) := fun w => specRefKind (wAt s (8 * q)) w
      rw [decide_eq_true (by omega : 8 * (q : Int) + 8 ≤ (s.size : Int))] at HT
      generalize wAt s (8 * q) = y at HT HK1 HW9 HRK
      clear hfit
      by_cases hk2 : refKind y = 2
      case neg =>
        have hne : (refKind y != 2) = true := by simpa using hk2
        have HR2 : Hid (ok = false) := by
          show ok = false
          rw [HR.out]; exact ywB_le s xs (k + 1) _ (by omega) (by rw [HT.out, decide_eq_false hk2]; simp)
        clear hk2
        go_wp2_with fail
        refine (HW9.out wr).mono ?_
        rintro e w4 ⟨rfl, rfl⟩
        go_wp2_with fail
        refine (HRK.out _).mono ?_
        rintro e w5 ⟨rfl, rfl⟩
        go_wp2
        go_ret2
        exact ⟨HNO.out HR2.out _ HB.out, HB.out⟩
      case pos =>
      have hne : (refKind y != 2) = false := by simpa using hk2
      have HT2 : Hid (ywB s xs (k + 1) = true) := by
        show ywB s xs (k + 1) = true
        rw [HT.out, HYB.out, decide_eq_true hk2]; rfl
      clear hk2
      go_wp2_with fail
      refine (HW9.out wr).mono ?_
      rintro e w4 ⟨rfl, rfl⟩
      go_wp2_with fail
      refine (HRK.out _).mono ?_
      rintro e w5 ⟨rfl, rfl⟩
      go_wp2_with fail
      refine (HW9.out _).mono ?_
      rintro e w6 ⟨rfl, rfl⟩
      go_wp2_with (refine wpList_push _ (by rfl) _ _ (by rfl) w.heap.size u6 L y HO.out (by rfl) (by rfl) HLK.out HB.out.size ?_; intro g2 c2 w7 hown6 hb6 hB6; have HO6 : Hid (_) := hown6; have HB6 : Hid (Below w.heap.size w w7) := HB.out.trans hb6; clear hown6 hb6 hB6)
      go_roundw
      case rel => exact ⟨k + 1, by omega, by go_num, HT2.out, by rw [HK1.out]; exact HO6.out, HB6.out⟩
      case measure => simp [intOf]; omega
    · obtain rfl : k = xs.length := by omega
      have HR2 : Hid (ok = true) := by show ok = true; rw [HR.out, HYB.out]
      go_wp2
      go_ret2
      exact ⟨HYES.out HR2.out _ _ HO.out HB.out, HB.out⟩
end Go.Proofs.Ytjdlphebnhkghaa.yw
