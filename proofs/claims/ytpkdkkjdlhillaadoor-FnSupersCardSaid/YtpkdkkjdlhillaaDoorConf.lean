/-
  Configs: their sizes, their copy, that one is like itself; whether one is right, and where its data begins, by the program and by the specification.
-/
import Derived.Test.YtpkdkkjdlhillaaDoorStrs
namespace Go.Proofs.YtpkdkkjdlhillaaDoor.kinds
open Go.RowKit

/-- A config as a value. -/
def confVal (n1 n2 n3 : Int) (a : Option Addr) (len cap : Nat) : Value := .agg #[.int .i64 n1, .int .i64 n2, .int .i64 n3, .slice a len cap]
theorem Strs.set {w : World} {g : Nat} {xs : List ByteArray} (h : Strs w (some ⟨g, 0, none⟩) xs) (a : Addr) (x : Value) (ha : a.block ≠ g) : Strs (w.setCell a x) (some ⟨g, 0, none⟩) xs := fun i hi => by
  obtain ⟨b, off, e, h0⟩ := h i hi
  have e1 : g = b := by simpa using congrArg (fun a : Option Addr => (a.map Addr.block)) e
  subst e1
  exact ⟨g, off, e, by rw [World.cell?_setCell_other _ _ _ _ (fun q => ha (congrArg Addr.block q))]; exact h0⟩
theorem set_chain {w : World} {b c : Nat} (hbc : b ≠ c) {v0 v1 v2 v3 : Value} (h0 : w.cell? ⟨b, 0, none⟩ = some v0) (h1 : w.cell? ⟨b, 1, none⟩ = some v1) (h2 : w.cell? ⟨b, 2, none⟩ = some v2) (h3 : w.cell? ⟨b, 3, none⟩ = some v3) (S x0 x1 x2 x3 : Value) :
    let Z := ((((w.setCell ⟨c, 3, none⟩ S).setCell ⟨b, 0, none⟩ x0).setCell ⟨b, 1, none⟩ x1).setCell ⟨b, 2, none⟩ x2).setCell ⟨b, 3, none⟩ x3
    Z.cell? ⟨b, 0, none⟩ = some x0 ∧ Z.cell? ⟨b, 1, none⟩ = some x1 ∧ Z.cell? ⟨b, 2, none⟩ = some x2 ∧ Z.cell? ⟨b, 3, none⟩ = some x3 := by
  have ne : ∀ i j : Nat, i ≠ j → (⟨b, i, none⟩ : Addr) ≠ ⟨b, j, none⟩ := fun i j h q => by have := congrArg Addr.off q; simp at this; omega
  have nc : ∀ i : Nat, (⟨c, 3, none⟩ : Addr) ≠ ⟨b, i, none⟩ := fun i q => by have := congrArg Addr.block q; simp at this; omega
  refine ⟨?_, ?_, ?_, ?_⟩
  · rw [World.cell?_setCell_other _ _ _ _ (ne 3 0 (by omega)), World.cell?_setCell_other _ _ _ _ (ne 2 0 (by omega)), World.cell?_setCell_other _ _ _ _ (ne 1 0 (by omega))]
    exact World.cell?_setCell_same _ _ _ (by rw [World.cell?_setCell_other _ _ _ _ (nc 0)]; exact h0)
  · rw [World.cell?_setCell_other _ _ _ _ (ne 3 1 (by omega)), World.cell?_setCell_other _ _ _ _ (ne 2 1 (by omega))]
    exact World.cell?_setCell_same _ _ _ (by rw [World.cell?_setCell_other _ _ _ _ (ne 0 1 (by omega)), World.cell?_setCell_other _ _ _ _ (nc 1)]; exact h1)
  · rw [World.cell?_setCell_other _ _ _ _ (ne 3 2 (by omega))]
    exact World.cell?_setCell_same _ _ _ (by rw [World.cell?_setCell_other _ _ _ _ (ne 1 2 (by omega)), World.cell?_setCell_other _ _ _ _ (ne 0 2 (by omega)), World.cell?_setCell_other _ _ _ _ (nc 2)]; exact h2)
  · exact World.cell?_setCell_same _ _ _ (by rw [World.cell?_setCell_other _ _ _ _ (ne 2 3 (by omega)), World.cell?_setCell_other _ _ _ _ (ne 1 3 (by omega)), World.cell?_setCell_other _ _ _ _ (ne 0 3 (by omega)), World.cell?_setCell_other _ _ _ _ (nc 3)]; exact h3)
theorem eqConfig_same (w : World) (n1 n2 n3 : Int) (a b : Option Addr) (ca cb : Nat) (xs : List ByteArray) (hn : xs.length ≤ 1048576) (ha : Strs w a xs) (hb : Strs w b xs) :
    Calls Tryd.prog 23 #[.agg #[.int .i64 n1, .int .i64 n2, .int .i64 n3, .slice a xs.length ca], .agg #[.int .i64 n1, .int .i64 n2, .int .i64 n3, .slice b xs.length cb]] w fun e w' => e = .returned (.bool true) ∧ Below w.heap.size w w' := by
  have s1 : (n1 != n1) = false := by simp
  have s2 : (n2 != n2) = false := by simp
  have s3 : (n3 != n3) = false := by simp
  have hb0 : Below w.heap.size w ((w.alloc (.cells #[.int .i64 n1, .int .i64 n2, .int .i64 n3, .slice a xs.length ca] 26)).alloc (.cells #[.int .i64 n1, .int .i64 n2, .int .i64 n3, .slice b xs.length cb] 26)) := by go_grown
  have HA : Hid (Strs _ a xs) := ha.below hb0
  have HBb : Hid (Strs _ b xs) := hb.below hb0
  have HB0 : Hid (Below w.heap.size w _) := hb0
  clear ha hb hb0
  go_enter Tryd.func23, Tryd.ntmps23
  go_wp2_with fail
  refine (eqStringS_same _ a b ca cb xs hn HA.out HBb.out).mono ?_
  rintro e w2 ⟨rfl, hb2⟩
  go_wp2
  go_ret
  exact ⟨rfl, HB0.out.trans (hb2.mono HB0.out.size)⟩
theorem kWithin (w : World) (x lo hi : Int) :
    Calls Tryd.prog 44 #[.int .i64 x, .int .i64 lo, .int .i64 hi] w fun e w' => e = .returned (.bool (decide (lo ≤ x) && decide (x ≤ hi))) ∧ w = w' := by
  by_cases h : lo ≤ x
  · have hd : decide (lo ≤ x) = true := by simpa using h
    rw [hd]
    go_enter Tryd.func44, Tryd.ntmps44
    go_wp2
    go_ret
    exact ⟨by simp, rfl⟩
  · have hd : decide (lo ≤ x) = false := by simpa using h
    rw [hd]
    go_enter Tryd.func44, Tryd.ntmps44
    go_wp2
    go_ret
    exact ⟨rfl, rfl⟩
def configOk (n1 n2 n3 : Int) (xs : List ByteArray) : Bool := decide (8 ≤ n1 ∧ n1 ≤ 128) && decide (1 ≤ n2 ∧ n2 ≤ 32 ∧ n2 ≤ n1 - 5) && decide (2 ≤ n3 ∧ n3 ≤ 400) && typesOk xs
theorem andB {a b c d : Int} : (decide (a ≤ b) && decide (c ≤ d)) = decide (a ≤ b ∧ c ≤ d) := by
  rw [Bool.eq_iff_iff]; simp
set_option maxHeartbeats 2000000 in
theorem spec_conf (w : World) (n1 n2 n3 : Int) (a : Option Addr) (cap : Nat) (xs : List ByteArray) (hn : xs.length ≤ 1048576) (hl : Strs w a xs) (hz : ∀ i (hi : i < xs.length), xs[i].size ≤ 1048576) :
    Calls Tryd.prog 15 #[.agg #[.int .i64 n1, .int .i64 n2, .int .i64 n3, .slice a xs.length cap]] w fun e w' => e = .returned (.bool (configOk n1 n2 n3 xs)) ∧ Below w.heap.size w w' := by
  have hb0 : Below w.heap.size w (w.alloc (.cells #[.int .i64 n1, .int .i64 n2, .int .i64 n3, .slice a xs.length cap] 26)) := (Below.refl _ _).alloc (Nat.le_refl _) _
  have HB0 : Hid (Below w.heap.size w (w.alloc (.cells #[.int .i64 n1, .int .i64 n2, .int .i64 n3, .slice a xs.length cap] 26))) := hb0
  have HT : Hid (Calls _ _ _ _ _) := spec_types (w.alloc (.cells #[.int .i64 n1, .int .i64 n2, .int .i64 n3, .slice a xs.length cap] 26)) a cap xs hn (hl.below hb0) hz
  have H1 : Hid (∀ w, Calls _ _ _ w _) := fun w => kIn_any w n1 8 128
  have H2 : Hid (∀ w, Calls _ _ _ w _) := fun w => kIn_any w n2 1 32
  have H3 : Hid (∀ w, Calls _ _ _ w _) := fun w => kIn_any w n3 2 400
  rw [andB] at H1 H2 H3
  have HC : Hid (configOk n1 n2 n3 xs = (decide (8 ≤ n1 ∧ n1 ≤ 128) && decide (1 ≤ n2 ∧ n2 ≤ 32 ∧ n2 ≤ n1 - 5) && decide (2 ≤ n3 ∧ n3 ≤ 400) && typesOk xs)) := rfl
  generalize typesOk xs = t at HT HC
  clear hl hz hb0
  by_cases c1 : 8 ≤ n1 ∧ n1 ≤ 128
  · rw [decide_eq_true c1] at H1 HC
    by_cases c2 : 1 ≤ n2 ∧ n2 ≤ 32
    · rw [decide_eq_true c2] at H2
      by_cases c3 : n2 ≤ n1 - 5
      · rw [decide_eq_true (show 1 ≤ n2 ∧ n2 ≤ 32 ∧ n2 ≤ n1 - 5 from ⟨c2.1, c2.2, c3⟩)] at HC
        have g3 : decide (n2 ≤ n1 - 5) = true := by simpa using c3
        obtain ⟨c1a, c1b⟩ := c1
        by_cases c4 : 2 ≤ n3 ∧ n3 ≤ 400
        · rw [decide_eq_true c4] at H3 HC
          have HC2 : Hid (configOk n1 n2 n3 xs = t) := by
            show configOk n1 n2 n3 xs = t
            rw [HC.out]; simp
          clear c4 c2 HC
          go_enter Tryd.func15, Tryd.ntmps15
          go_wp2_with fail
          refine (H1.out _).mono ?_
          rintro e w' ⟨rfl, rfl⟩
          go_wp2_with fail
          refine (H2.out _).mono ?_
          rintro e w' ⟨rfl, rfl⟩
          go_wp2_with fail
          refine (H3.out _).mono ?_
          rintro e w' ⟨rfl, rfl⟩
          go_wp2_with fail
          refine HT.out.mono ?_
          rintro e w' ⟨rfl, rfl⟩
          go_wp2
          go_ret
          exact ⟨by rw [HC2.out]; rfl, HB0.out⟩
        · rw [decide_eq_false c4] at H3 HC
          have HC2 : Hid (configOk n1 n2 n3 xs = false) := by
            show configOk n1 n2 n3 xs = false
            rw [HC.out]; simp
          clear c4 c2 HC
          go_enter Tryd.func15, Tryd.ntmps15
          go_wp2_with fail
          refine (H1.out _).mono ?_
          rintro e w' ⟨rfl, rfl⟩
          go_wp2_with fail
          refine (H2.out _).mono ?_
          rintro e w' ⟨rfl, rfl⟩
          go_wp2_with fail
          refine (H3.out _).mono ?_
          rintro e w' ⟨rfl, rfl⟩
          go_wp2
          go_ret
          exact ⟨by rw [HC2.out]; rfl, HB0.out⟩
      · have HC2 : Hid (configOk n1 n2 n3 xs = false) := by
          show configOk n1 n2 n3 xs = false
          rw [HC.out, decide_eq_false (show ¬ (1 ≤ n2 ∧ n2 ≤ 32 ∧ n2 ≤ n1 - 5) from fun q => c3 q.2.2)]; simp
        have g3 : decide (n2 ≤ n1 - 5) = false := by simpa using c3
        obtain ⟨c1a, c1b⟩ := c1
        clear c2 HC
        go_enter Tryd.func15, Tryd.ntmps15
        go_wp2_with fail
        refine (H1.out _).mono ?_
        rintro e w' ⟨rfl, rfl⟩
        go_wp2_with fail
        refine (H2.out _).mono ?_
        rintro e w' ⟨rfl, rfl⟩
        go_wp2
        go_ret
        exact ⟨by rw [HC2.out]; rfl, HB0.out⟩
    · have HC2 : Hid (configOk n1 n2 n3 xs = false) := by
        show configOk n1 n2 n3 xs = false
        rw [HC.out, decide_eq_false (show ¬ (1 ≤ n2 ∧ n2 ≤ 32 ∧ n2 ≤ n1 - 5) from fun q => c2 ⟨q.1, q.2.1⟩)]; simp
      rw [decide_eq_false c2] at H2
      clear c1 c2 HC
      go_enter Tryd.func15, Tryd.ntmps15
      go_wp2_with fail
      refine (H1.out _).mono ?_
      rintro e w' ⟨rfl, rfl⟩
      go_wp2_with fail
      refine (H2.out _).mono ?_
      rintro e w' ⟨rfl, rfl⟩
      go_wp2
      go_ret
      exact ⟨by rw [HC2.out]; rfl, HB0.out⟩
  · have HC2 : Hid (configOk n1 n2 n3 xs = false) := by
      show configOk n1 n2 n3 xs = false
      rw [HC.out, decide_eq_false c1]; simp
    rw [decide_eq_false c1] at H1
    clear c1 HC
    go_enter Tryd.func15, Tryd.ntmps15
    go_wp2_with fail
    refine (H1.out _).mono ?_
    rintro e w' ⟨rfl, rfl⟩
    go_wp2
    go_ret
    exact ⟨by rw [HC2.out]; rfl, HB0.out⟩
set_option maxHeartbeats 2000000 in
theorem impl_conf (w : World) (n1 n2 n3 : Int) (a : Option Addr) (cap : Nat) (xs : List ByteArray) (hn : xs.length ≤ 1048576) (hl : Strs w a xs) (hz : ∀ i (hi : i < xs.length), xs[i].size ≤ 1048576) :
    Calls Tryd.prog 14 #[.agg #[.int .i64 n1, .int .i64 n2, .int .i64 n3, .slice a xs.length cap]] w fun e w' => e = .returned (.bool (configOk n1 n2 n3 xs)) ∧ Below w.heap.size w w' := by
  have hb0 : Below w.heap.size w (w.alloc (.cells #[.int .i64 n1, .int .i64 n2, .int .i64 n3, .slice a xs.length cap] 26)) := (Below.refl _ _).alloc (Nat.le_refl _) _
  have HB0 : Hid (Below w.heap.size w (w.alloc (.cells #[.int .i64 n1, .int .i64 n2, .int .i64 n3, .slice a xs.length cap] 26))) := hb0
  have HT : Hid (Calls _ _ _ _ _) := impl_types (w.alloc (.cells #[.int .i64 n1, .int .i64 n2, .int .i64 n3, .slice a xs.length cap] 26)) a cap xs hn (hl.below hb0) hz
  have H1 : Hid (∀ w, Calls _ _ _ w _) := fun w => kWithin w n1 8 128
  have H2 : Hid (∀ w, Calls _ _ _ w _) := fun w => kWithin w n2 1 32
  have H2b : Hid (∀ w, Calls _ _ _ w _) := fun w => kWithin w n2 1 (n1 - 5)
  have H3 : Hid (∀ w, Calls _ _ _ w _) := fun w => kWithin w n3 2 400
  rw [andB] at H1 H2 H2b H3
  have HC : Hid (configOk n1 n2 n3 xs = (decide (8 ≤ n1 ∧ n1 ≤ 128) && decide (1 ≤ n2 ∧ n2 ≤ 32 ∧ n2 ≤ n1 - 5) && decide (2 ≤ n3 ∧ n3 ≤ 400) && typesOk xs)) := rfl
  generalize typesOk xs = t at HT HC
  clear hl hz hb0
  by_cases c1 : 8 ≤ n1 ∧ n1 ≤ 128
  · rw [decide_eq_true c1] at H1 HC
    obtain ⟨c1a, c1b⟩ := c1
    by_cases hmin : 32 ≤ n1 - 5
    · have hm2 : ¬ n1 - 5 < 32 := by omega
      by_cases c2 : 1 ≤ n2 ∧ n2 ≤ 32
      · rw [decide_eq_true c2] at H2
        rw [decide_eq_true (show 1 ≤ n2 ∧ n2 ≤ 32 ∧ n2 ≤ n1 - 5 from ⟨c2.1, by omega, by omega⟩)] at HC
        clear c2
        by_cases c4 : 2 ≤ n3 ∧ n3 ≤ 400
        · rw [decide_eq_true c4] at H3 HC
          have HC2 : Hid (configOk n1 n2 n3 xs = t) := by
            show configOk n1 n2 n3 xs = t
            rw [HC.out]; simp
          clear c4 HC
          go_enter Tryd.func14, Tryd.ntmps14
          go_wp2_with fail
          refine (H1.out _).mono ?_
          rintro e w' ⟨rfl, rfl⟩
          go_wp2_with fail
          refine (H2.out _).mono ?_
          rintro e w' ⟨rfl, rfl⟩
          go_wp2_with fail
          refine (H3.out _).mono ?_
          rintro e w' ⟨rfl, rfl⟩
          go_wp2_with fail
          refine HT.out.mono ?_
          rintro e w' ⟨rfl, rfl⟩
          go_wp2
          go_ret
          exact ⟨by rw [HC2.out]; rfl, HB0.out⟩
        · rw [decide_eq_false c4] at H3 HC
          have HC2 : Hid (configOk n1 n2 n3 xs = false) := by
            show configOk n1 n2 n3 xs = false
            rw [HC.out]; simp
          clear c4 HC
          go_enter Tryd.func14, Tryd.ntmps14
          go_wp2_with fail
          refine (H1.out _).mono ?_
          rintro e w' ⟨rfl, rfl⟩
          go_wp2_with fail
          refine (H2.out _).mono ?_
          rintro e w' ⟨rfl, rfl⟩
          go_wp2_with fail
          refine (H3.out _).mono ?_
          rintro e w' ⟨rfl, rfl⟩
          go_wp2
          go_ret
          exact ⟨by rw [HC2.out]; rfl, HB0.out⟩
      · have HC2 : Hid (configOk n1 n2 n3 xs = false) := by
          show configOk n1 n2 n3 xs = false
          rw [HC.out, decide_eq_false (show ¬ (1 ≤ n2 ∧ n2 ≤ 32 ∧ n2 ≤ n1 - 5) from fun q => c2 ⟨q.1, by omega⟩)]; simp
        rw [decide_eq_false c2] at H2
        clear c2 HC
        go_enter Tryd.func14, Tryd.ntmps14
        go_wp2_with fail
        refine (H1.out _).mono ?_
        rintro e w' ⟨rfl, rfl⟩
        go_wp2_with fail
        refine (H2.out _).mono ?_
        rintro e w' ⟨rfl, rfl⟩
        go_wp2
        go_ret
        exact ⟨by rw [HC2.out]; rfl, HB0.out⟩
    · have hm2 : n1 - 5 < 32 := by omega
      by_cases c2 : 1 ≤ n2 ∧ n2 ≤ n1 - 5
      · rw [decide_eq_true c2] at H2b
        rw [decide_eq_true (show 1 ≤ n2 ∧ n2 ≤ 32 ∧ n2 ≤ n1 - 5 from ⟨c2.1, by omega, by omega⟩)] at HC
        clear c2
        by_cases c4 : 2 ≤ n3 ∧ n3 ≤ 400
        · rw [decide_eq_true c4] at H3 HC
          have HC2 : Hid (configOk n1 n2 n3 xs = t) := by
            show configOk n1 n2 n3 xs = t
            rw [HC.out]; simp
          clear c4 HC
          go_enter Tryd.func14, Tryd.ntmps14
          go_wp2_with fail
          refine (H1.out _).mono ?_
          rintro e w' ⟨rfl, rfl⟩
          go_wp2_with fail
          refine (H2b.out _).mono ?_
          rintro e w' ⟨rfl, rfl⟩
          go_wp2_with fail
          refine (H3.out _).mono ?_
          rintro e w' ⟨rfl, rfl⟩
          go_wp2_with fail
          refine HT.out.mono ?_
          rintro e w' ⟨rfl, rfl⟩
          go_wp2
          go_ret
          exact ⟨by rw [HC2.out]; rfl, HB0.out⟩
        · rw [decide_eq_false c4] at H3 HC
          have HC2 : Hid (configOk n1 n2 n3 xs = false) := by
            show configOk n1 n2 n3 xs = false
            rw [HC.out]; simp
          clear c4 HC
          go_enter Tryd.func14, Tryd.ntmps14
          go_wp2_with fail
          refine (H1.out _).mono ?_
          rintro e w' ⟨rfl, rfl⟩
          go_wp2_with fail
          refine (H2b.out _).mono ?_
          rintro e w' ⟨rfl, rfl⟩
          go_wp2_with fail
          refine (H3.out _).mono ?_
          rintro e w' ⟨rfl, rfl⟩
          go_wp2
          go_ret
          exact ⟨by rw [HC2.out]; rfl, HB0.out⟩
      · have HC2 : Hid (configOk n1 n2 n3 xs = false) := by
          show configOk n1 n2 n3 xs = false
          rw [HC.out, decide_eq_false (show ¬ (1 ≤ n2 ∧ n2 ≤ 32 ∧ n2 ≤ n1 - 5) from fun q => c2 ⟨q.1, by omega⟩)]; simp
        rw [decide_eq_false c2] at H2b
        clear c2 HC
        go_enter Tryd.func14, Tryd.ntmps14
        go_wp2_with fail
        refine (H1.out _).mono ?_
        rintro e w' ⟨rfl, rfl⟩
        go_wp2_with fail
        refine (H2b.out _).mono ?_
        rintro e w' ⟨rfl, rfl⟩
        go_wp2
        go_ret
        exact ⟨by rw [HC2.out]; rfl, HB0.out⟩
  · have HC2 : Hid (configOk n1 n2 n3 xs = false) := by
      show configOk n1 n2 n3 xs = false
      rw [HC.out, decide_eq_false c1]; simp
    rw [decide_eq_false c1] at H1
    clear c1 HC
    go_enter Tryd.func14, Tryd.ntmps14
    go_wp2_with fail
    refine (H1.out _).mono ?_
    rintro e w' ⟨rfl, rfl⟩
    go_wp2
    go_ret
    exact ⟨by rw [HC2.out]; rfl, HB0.out⟩
def firstData (n1 n2 n3 : Int) (xs : List ByteArray) : Int := if configOk n1 n2 n3 xs = true then 4 + n2 else -1
theorem conf_log {n1 n2 n3 : Int} {xs : List ByteArray} (h : configOk n1 n2 n3 xs = true) : 1 ≤ n2 ∧ n2 ≤ 32 := by
  unfold configOk at h
  simp at h
  omega
theorem impl_first (w : World) (n1 n2 n3 : Int) (a : Option Addr) (cap : Nat) (xs : List ByteArray) (hn : xs.length ≤ 1048576) (hl : Strs w a xs) (hz : ∀ i (hi : i < xs.length), xs[i].size ≤ 1048576) :
    Calls Tryd.prog 20 #[.agg #[.int .i64 n1, .int .i64 n2, .int .i64 n3, .slice a xs.length cap]] w fun e w' => e = .returned (.int .i64 (firstData n1 n2 n3 xs)) ∧ Below w.heap.size w w' := by
  obtain ⟨W, hW⟩ : ∃ W, W = w.alloc (.cells #[.int .i64 n1, .int .i64 n2, .int .i64 n3, .slice a xs.length cap] 26) := ⟨_, rfl⟩
  have hb0 : Below w.heap.size w W := by rw [hW]; exact (Below.refl _ _).alloc (Nat.le_refl _) _
  have HB0 : Hid (Below w.heap.size w W) := hb0
  have HC : Hid (Calls _ _ _ _ _) := impl_conf W n1 n2 n3 a cap xs hn (hl.below hb0) hz
  have hsz : w.heap.size < W.heap.size := by rw [hW]; simp
  have k1 : W.cell? ⟨w.heap.size, 1, none⟩ = some (.int .i64 n2) := by rw [hW, World.cell?_alloc_new]; rfl
  have HW : Hid (W = w.alloc (.cells #[.int .i64 n1, .int .i64 n2, .int .i64 n3, .slice a xs.length cap] 26)) := hW
  clear hl hz hW hb0
  cases hc : configOk n1 n2 n3 xs with
  | true =>
    have HF : Hid (firstData n1 n2 n3 xs = 4 + n2) := by show firstData n1 n2 n3 xs = _; unfold firstData; rw [if_pos hc]
    obtain ⟨h1, h2⟩ := conf_log hc
    rw [hc] at HC
    clear hc
    go_enter Tryd.func20, Tryd.ntmps20
    go_wp2_with fail
    rw [← HW.out]
    refine HC.out.mono ?_
    rintro e w2 ⟨rfl, hb2⟩
    have m1 : w2.cell? ⟨w.heap.size, 1, none⟩ = some (.int .i64 n2) := by rw [hb2.cell (p := ⟨w.heap.size, 1, none⟩) hsz]; exact k1
    go_wp2
    go_ret
    exact ⟨by rw [HF.out]; rfl, HB0.out.trans (hb2.mono HB0.out.size)⟩
  | false =>
    have HF : Hid (firstData n1 n2 n3 xs = -1) := by show firstData n1 n2 n3 xs = _; unfold firstData; rw [hc]; rfl
    rw [hc] at HC
    clear hc
    go_enter Tryd.func20, Tryd.ntmps20
    go_wp2_with fail
    rw [← HW.out]
    refine HC.out.mono ?_
    rintro e w2 ⟨rfl, hb2⟩
    go_wp2
    go_ret
    exact ⟨by rw [HF.out]; rfl, HB0.out.trans (hb2.mono HB0.out.size)⟩
end Go.Proofs.YtpkdkkjdlhillaaDoor.kinds
