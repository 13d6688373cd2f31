/-
  Images: whether one is of a config, the number in a word of it, lines of data, and references to these; by the program and by the specification.
-/
import Derived.Test.YthmohmfkgoipkaaConf
import Derived.Test.YthmohmfkgoipkaaOBox
import Derived.Test.YthmohmfkgoipkaaIn
namespace Go.Proofs.Ythmohmfkgoipkaa.img
open Go.RowKit
open kinds ints wmath num obj ref

theorem conf_lines {n1 n2 n3 : Int} {xs : List ByteArray} (h : configOk n1 n2 n3 xs = true) : 8 ≤ n1 ∧ n1 ≤ 128 ∧ 1 ≤ n2 ∧ n2 ≤ 32 ∧ n2 ≤ n1 - 5 := by
  unfold configOk at h
  simp at h
  omega
/-- Is it an image of the config? -/
def imageB (n1 n2 n3 : Int) (xs : List ByteArray) (s : ByteArray) : Bool := configOk n1 n2 n3 xs && decide ((s.size : Int) = 64 * n1)
theorem isImage_any (w : World) (n1 : Int) (v2 v3 v4 : Value) (s : ByteArray) (_hs : s.size ≤ 1048576) (h1 : 8 ≤ n1) (h2 : n1 ≤ 128) :
    Calls Try.prog 36 #[.agg #[.int .i64 n1, v2, v3, v4], .string s] w fun e w' => e = .returned (.bool (decide ((s.size : Int) = 64 * n1))) ∧ Below w.heap.size w w' := by
  have hd : ((s.size : Int) == n1 * 64) = decide ((s.size : Int) = 64 * n1) := by
    rw [Int.mul_comm n1 64, Bool.eq_iff_iff]
    simp
  have hw : IntKind.i64.wrap (n1 * 64) = n1 * 64 := by rw [IntKind.wrap_i64]; omega
  go_enter Try.func36, Try.ntmps36
  go_wp2
  go_ret
  exact ⟨by rw [← hd]; rfl, by go_grown⟩
set_option maxHeartbeats 1000000 in
theorem l5Image_any (w : World) (n1 n2 n3 : Int) (a : Option Addr) (cap : Nat) (xs : List ByteArray) (s : ByteArray) (_hs : s.size ≤ 1048576) (hn : xs.length ≤ 1048576) (hl : Strs w a xs) (hz : ∀ i (hi : i < xs.length), xs[i].size ≤ 1048576) :
    Calls Try.prog 20 #[.agg #[.int .i64 n1, .int .i64 n2, .int .i64 n3, .slice a xs.length cap], .string s] w fun e w' => e = .returned (.bool (imageB n1 n2 n3 xs s)) ∧ Below w.heap.size w w' := by
  obtain ⟨W, hW⟩ : ∃ W, W = w.alloc (.cells #[.int .i64 n1, .int .i64 n2, .int .i64 n3, .slice a xs.length cap] 29) := ⟨_, rfl⟩
  have hb0 : Below w.heap.size w W := by rw [hW]; exact (Below.refl _ _).alloc (Nat.le_refl _) _
  have hsz : w.heap.size < W.heap.size := by rw [hW]; simp
  have HK : Hid (∀ w', Below W.heap.size W w' → w'.cell? ⟨w.heap.size, 0, none⟩ = some (.int .i64 n1)) := fun w' h => by rw [h.cell (p := ⟨w.heap.size, 0, none⟩) hsz, hW, World.cell?_alloc_new]; rfl
  have HW : Hid (W = w.alloc (.cells #[.int .i64 n1, .int .i64 n2, .int .i64 n3, .slice a xs.length cap] 29)) := hW
  have HB0 : Hid (Below w.heap.size w W) := hb0
  have HC : Hid (Calls _ _ _ _ _) := spec_conf W n1 n2 n3 a cap xs hn (hl.below hb0) hz
  have HIB : Hid (imageB n1 n2 n3 xs s = (configOk n1 n2 n3 xs && decide ((s.size : Int) = 64 * n1))) := rfl
  have hcl := @conf_lines n1 n2 n3 xs
  generalize imageB n1 n2 n3 xs s = ib at HIB ⊢
  clear hW hb0 hl hz
  cases hc : configOk n1 n2 n3 xs with
  | false =>
    rw [hc] at HC HIB
    have HR : Hid (ib = false) := HIB.out
    clear hc hcl
    go_enter Try.func20, Try.ntmps20
    go_wp2_with fail
    rw [← HW.out]
    refine HC.out.mono ?_
    rintro e w1 ⟨rfl, hb1⟩
    have HB1 : Hid (Below w.heap.size w w1) := HB0.out.trans (hb1.mono HB0.out.size)
    go_wp2
    go_ret
    exact ⟨by rw [HR.out]; rfl, HB1.out⟩
  | true =>
    obtain ⟨hn8, hn128, _, _, _⟩ := hcl hc
    rw [hc] at HC HIB
    have HR : Hid (ib = ((s.size : Int) == 64 * n1)) := by
      show ib = _
      rw [HIB.out, Bool.true_and, Bool.eq_iff_iff]
      simp
    have hw : IntKind.i64.wrap (64 * n1) = 64 * n1 := by rw [IntKind.wrap_i64]; omega
    clear hc hcl
    go_enter Try.func20, Try.ntmps20
    go_wp2_with fail
    rw [← HW.out]
    refine HC.out.mono ?_
    rintro e w1 ⟨rfl, hb1⟩
    have HB1 : Hid (Below w.heap.size w w1) := HB0.out.trans (hb1.mono HB0.out.size)
    have m0 := HK.out w1 hb1
    clear hb1
    go_wp2
    go_ret
    exact ⟨by rw [HR.out]; rfl, HB1.out⟩
theorem wordAt_any (w : World) (s : ByteArray) (p : Nat) (hs : s.size ≤ 1048576) (h : 8 * p + 8 ≤ s.size) :
    Calls Try.prog 38 #[.string s, .int .i64 (p : Int)] w fun e w' => e = .returned (.int .i64 (wAt s (8 * p))) ∧ w = w' := by
  have h1 : 8 * (p : Int) + 8 ≤ (s.size : Int) := by omega
  have HE : Hid (wAt s (8 * p) = wrap64 (num (s.extract (p * 8) ((p + 1) * 8)).data.toList)) := by show wAt s (8 * p) = _; unfold wAt; rw [Nat.mul_comm 8 p, show (p + 1) * 8 = p * 8 + 8 by omega]
  have HC : Hid (∀ w, Calls _ _ _ w _) := fun w => numberOf_any (s.extract (p * 8) ((p + 1) * 8)) w (by rw [ByteArray.size_extract]; omega)
  generalize wAt s (8 * p) = r at HE ⊢
  generalize num (s.extract (p * 8) ((p + 1) * 8)).data.toList = m at HE HC
  go_enter Try.func38, Try.ntmps38
  go_wp2_with fail
  refine (HC.out w).mono ?_
  rintro e w1 ⟨rfl, rfl⟩
  go_wp2
  go_ret
  rw [HE.out]
  exact ⟨rfl, rfl⟩
theorem l9Word_any (w : World) (s : ByteArray) (p : Nat) (hs : s.size ≤ 1048576) (h : 8 * p + 8 ≤ s.size) :
    Calls Try.prog 34 #[.string s, .int .i64 (p : Int)] w fun e w' => e = .returned (.int .i64 (wAt s (8 * p))) ∧ w = w' := by
  have h1 : 8 * (p : Int) + 8 ≤ (s.size : Int) := by omega
  have HC : Hid (∀ w, Calls _ _ _ w _) := fun w => spec_eight (s.extract (8 * p) (8 * p + 8)) w (by rw [ByteArray.size_extract]; omega)
  have HE : Hid (wAt s (8 * p) = wrap64 (num (s.extract (8 * p) (8 * p + 8)).data.toList)) := rfl
  rw [← HE.out] at HC
  generalize wAt s (8 * p) = r at HC ⊢
  go_enter Try.func34, Try.ntmps34
  go_wp2_with fail
  refine (HC.out w).mono ?_
  rintro e w1 ⟨rfl, rfl⟩
  go_wp2
  go_ret
  exact ⟨rfl, rfl⟩
/-- A line of data. -/
def dataB (n1 n2 l : Int) : Bool := decide (4 + n2 ≤ l) && decide (l ≤ n1 - 1)
/-- Nothing, or old and of a line of data. -/
def oldB (n1 n2 r : Int) : Bool := if r = 0 then true else if refKind r = 1 then dataB n1 n2 (r / 2) else false
def allOld (n1 n2 : Int) (rs : List Int) : Nat → Bool
  | 0 => true
  | k + 1 => allOld n1 n2 rs k && oldB n1 n2 (rs.getD k 0)
theorem allOld_le (n1 n2 : Int) (rs : List Int) (k n : Nat) (hk : k ≤ n) (hf : allOld n1 n2 rs k = false) : allOld n1 n2 rs n = false := by
  induction n with
  | zero => rw [show k = 0 by omega] at hf; exact hf
  | succ n ih =>
    by_cases e : k = n + 1
    · rw [← e]; exact hf
    · rw [allOld, ih (by omega)]; rfl
theorem kind_old {r : Int} (h : refKind r = 1) : 2 ≤ r ∧ r ≤ 254 := by
  unfold refKind at h
  split at h
  · omega
  · split at h
    · omega
    · split at h <;> omega
theorem getD_intI2 (xs : List Int) (k : Nat) (h : k < xs.length) : xs[k] = xs.getD k 0 := by
  rw [List.getD_eq_getElem?_getD, List.getElem?_eq_getElem h]; rfl
theorem l10Line_any (w : World) (n1 n2 l : Int) (v3 v4 : Value) (h1 : 8 ≤ n1) (h2 : n1 ≤ 128) (h3 : 1 ≤ n2) (h4 : n2 ≤ 32) :
    Calls Try.prog 29 #[.agg #[.int .i64 n1, .int .i64 n2, v3, v4], .int .i64 l] w fun e w' => e = .returned (.bool (dataB n1 n2 l)) ∧ Below w.heap.size w w' := by
  have HC : Hid (∀ w, Calls _ _ _ w _) := fun w => specIn_any w l (4 + n2) (n1 - 1)
  have HD : Hid (dataB n1 n2 l = (decide (4 + n2 ≤ l) && decide (l ≤ n1 - 1))) := rfl
  rw [← HD.out] at HC
  generalize dataB n1 n2 l = r at HC ⊢
  have hw1 : IntKind.i64.wrap (4 + n2) = 4 + n2 := by rw [IntKind.wrap_i64]; omega
  have hw2 : IntKind.i64.wrap (n1 - 1) = n1 - 1 := by rw [IntKind.wrap_i64]; omega
  go_enter Try.func29, Try.ntmps29
  go_wp2_with fail
  refine (HC.out _).mono ?_
  rintro e w1 ⟨rfl, hw⟩
  subst hw
  go_wp2
  go_ret
  exact ⟨rfl, by go_grown⟩
end Go.Proofs.Ythmohmfkgoipkaa.img
