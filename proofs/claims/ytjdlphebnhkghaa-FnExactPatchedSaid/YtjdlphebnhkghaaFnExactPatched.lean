/-
  FnExactPatched: for every text and all three slices of whole numbers the law that holds the program's Patched against the specification's Patched returns true, and the arguments read as before; no condition.
-/
import Derived.Test.YtjdlphebnhkghaaPtImpl2
import Derived.Test.YtjdlphebnhkghaaPtSpec
import Derived.Test.YtjdlphebnhkghaaIntsW
import Derived.ProofKit
import Derived.OpenShut
import Derived.ShutString
import Derived.ChangeOld
import Derived.Below
import Derived.Lib.SmallJoins
namespace Go.Proofs.Ytjdlphebnhkghaa.fnExactPatched
open Go.ChangeShapes Go.WideShapes Go.ChangeAt Go.RowKit
open ints iw yw pt

theorem own : ownKnob Try.prog.godebug = none := by kernel_rfl
theorem laidOut : laidOutB Try.prog = true := by kernel_rfl


set_option linter.unusedVariables false in
set_option maxHeartbeats 4000000 in
set_option maxRecDepth 20000 in
theorem walk (s0 : ByteArray) (b1 : Option Addr) (vc1 : Nat) (vs1 : List Int) (b2 : Option Addr) (vc2 : Nat) (vs2 : List Int) (b3 : Option Addr) (vc3 : Nat) (vs3 : List Int) (w : World) (hs0 : s0.size ≤ maxLen) (hk1 : Nums w b1 vs1) (hn1 : vs1.length ≤ maxLen) (hw1 : ∀ x ∈ vs1, (Lit.int .i64 x).wf = true) (hk2 : Nums w b2 vs2) (hn2 : vs2.length ≤ maxLen) (hw2 : ∀ x ∈ vs2, (Lit.int .i64 x).wf = true) (hk3 : Nums w b3 vs3) (hn3 : vs3.length ≤ maxLen) (hw3 : ∀ x ∈ vs3, (Lit.int .i64 x).wf = true) :
    Calls Try.prog 3 #[.string s0, .slice b1 vs1.length vc1, .slice b2 vs2.length vc2, .slice b3 vs3.length vc3] w fun e w' => e = .returned (.bool true) ∧ Below w.heap.size w w' := by
  have HK1 : Hid (Nums w b1 vs1) := hk1
  have HK2 : Hid (Nums w b2 vs2) := hk2
  have HK3 : Hid (Nums w b3 vs3) := hk3
  unfold maxLen at hn1 hn2 hn3 hs0
  by_cases hbig0 : (1048576 : Int) < (s0.size : Int)
  · go_enter Try.func3, Try.ntmps3
    go_wp2
    go_ret
    exact ⟨rfl, Below.refl _ _⟩
  by_cases hbig1 : (1048576 : Int) < (vs1.length : Int)
  · go_enter Try.func3, Try.ntmps3
    go_wp2
    go_ret
    exact ⟨rfl, Below.refl _ _⟩
  by_cases hbig2 : (1048576 : Int) < (vs2.length : Int)
  · go_enter Try.func3, Try.ntmps3
    go_wp2
    go_ret
    exact ⟨rfl, Below.refl _ _⟩
  by_cases hbig3 : (1048576 : Int) < (vs3.length : Int)
  · go_enter Try.func3, Try.ntmps3
    go_wp2
    go_ret
    exact ⟨rfl, Below.refl _ _⟩
  have hN1 : vs1.length ≤ 1048576 := by omega
  have HN1 : Hid (vs1.length ≤ 1048576) := hN1
  have hN2 : vs2.length ≤ 1048576 := by omega
  have HN2 : Hid (vs2.length ≤ 1048576) := hN2
  have hN3 : vs3.length ≤ 1048576 := by omega
  have HN3 : Hid (vs3.length ≤ 1048576) := hN3
  have hT0 : s0.size ≤ 1048576 := by omega
  have HS : Hid (∀ (w : World) (a1 : Option Addr) (k1 : Nat) (a2 : Option Addr) (k2 : Nat) (a3 : Option Addr) (k3 : Nat), Nums w a1 vs1 → Nums w a2 vs2 → Nums w a3 vs3 → _) := fun w a1 k1 a2 k2 a3 k3 q1 q2 q3 => spec_pt w s0 a1 k1 vs1 a2 k2 vs2 a3 k3 vs3 hT0 hN1 hN2 hN3 q1 q2 q3
  have HI : Hid (∀ (w : World) (a1 : Option Addr) (k1 : Nat) (a2 : Option Addr) (k2 : Nat) (a3 : Option Addr) (k3 : Nat), Nums w a1 vs1 → Nums w a2 vs2 → Nums w a3 vs3 → _) := fun w a1 k1 a2 k2 a3 k3 q1 q2 q3 => impl_pt w s0 a1 k1 vs1 a2 k2 vs2 a3 k3 vs3 hT0 hN1 hN2 hN3 q1 q2 q3 (fun x hx => i64_top (hw3 x hx))
  generalize ptS s0 vs2 vs3 vs1 = r0 at HS HI
  generalize ptOk s0 vs2 vs3 vs1 = r1 at HS HI
  have hss0 : (r0.toList == r0.toList) = true := by simp
  have hqq1 : (r1 == r1) = true := by simp
  have hqn1 : (r1 != r1) = false := by simp
  clear hk1 hN1 hn1 hw1 hk2 hN2 hn2 hw2 hk3 hN3 hn3 hw3 hs0 hT0 
  go_enter Try.func3, Try.ntmps3
  go_wp2_with fail
  refine (toInt64S_any w b1 vc1 vs1 HN1.out (HK1.out)).mono ?_
  rintro e w1 ⟨g_w1, rfl, hlo, hhi, hi, hb⟩
  have LW_Rw1 : Hid (w.heap.size ≤ g_w1) := by have h1 : w.heap.size ≤ w.heap.size := Nat.le_refl _; show w.heap.size ≤ g_w1; omega
  have HB_w1 : Hid (Below w.heap.size w w1) := hb
  have Rw1v0 : Hid (Ints w1 (some ⟨g_w1, 0, none⟩) g_w1 vs1) := hi
  have GLRw1v0 : Hid (g_w1 < w1.heap.size) := hhi
  clear hb hi hlo hhi 
  go_wp2_with fail
  refine (toInt64S_any w1 b2 vc2 vs2 HN2.out (HK2.out.below HB_w1.out)).mono ?_
  rintro e w2 ⟨g_w2, rfl, hlo, hhi, hi, hb⟩
  have LW_Rw2 : Hid (w.heap.size ≤ g_w2) := by have h1 : w.heap.size ≤ w1.heap.size := HB_w1.out.size; show w.heap.size ≤ g_w2; omega
  have NE_Rw1_Rw2 : Hid (0 < vs1.length → g_w1 ≠ g_w2) := fun h => by have h1 := Rw1v0.out.lt h; omega
  have NQ_Rw2_Rw1 : Hid (g_w2 ≠ g_w1) := by have h1 := GLRw1v0.out; show g_w2 ≠ g_w1; omega
  have Rw1v1 : Hid (Ints w2 (some ⟨g_w1, 0, none⟩) g_w1 vs1) := Rw1v0.out.below hb
  have GLRw1v1 : Hid (g_w1 < w2.heap.size) := Nat.lt_of_lt_of_le GLRw1v0.out hb.size
  have HB_w2 : Hid (Below w.heap.size w w2) := HB_w1.out.trans (hb.mono HB_w1.out.size)
  have Rw2v0 : Hid (Ints w2 (some ⟨g_w2, 0, none⟩) g_w2 vs2) := hi
  have GLRw2v0 : Hid (g_w2 < w2.heap.size) := hhi
  clear hb hi hlo hhi Rw1v0 GLRw1v0 HB_w1
  go_wp2_with fail
  refine (toInt64S_any w2 b3 vc3 vs3 HN3.out (HK3.out.below HB_w2.out)).mono ?_
  rintro e w3 ⟨g_w3, rfl, hlo, hhi, hi, hb⟩
  have LW_Rw3 : Hid (w.heap.size ≤ g_w3) := by have h1 : w.heap.size ≤ w2.heap.size := HB_w2.out.size; show w.heap.size ≤ g_w3; omega
  have NE_Rw1_Rw3 : Hid (0 < vs1.length → g_w1 ≠ g_w3) := fun h => by have h1 := Rw1v1.out.lt h; omega
  have NQ_Rw3_Rw1 : Hid (g_w3 ≠ g_w1) := by have h1 := GLRw1v1.out; show g_w3 ≠ g_w1; omega
  have NE_Rw2_Rw3 : Hid (0 < vs2.length → g_w2 ≠ g_w3) := fun h => by have h1 := Rw2v0.out.lt h; omega
  have NQ_Rw3_Rw2 : Hid (g_w3 ≠ g_w2) := by have h1 := GLRw2v0.out; show g_w3 ≠ g_w2; omega
  have Rw1v2 : Hid (Ints w3 (some ⟨g_w1, 0, none⟩) g_w1 vs1) := Rw1v1.out.below hb
  have GLRw1v2 : Hid (g_w1 < w3.heap.size) := Nat.lt_of_lt_of_le GLRw1v1.out hb.size
  have Rw2v1 : Hid (Ints w3 (some ⟨g_w2, 0, none⟩) g_w2 vs2) := Rw2v0.out.below hb
  have GLRw2v1 : Hid (g_w2 < w3.heap.size) := Nat.lt_of_lt_of_le GLRw2v0.out hb.size
  have HB_w3 : Hid (Below w.heap.size w w3) := HB_w2.out.trans (hb.mono HB_w2.out.size)
  have Rw3v0 : Hid (Ints w3 (some ⟨g_w3, 0, none⟩) g_w3 vs3) := hi
  have GLRw3v0 : Hid (g_w3 < w3.heap.size) := hhi
  clear hb hi hlo hhi Rw1v1 GLRw1v1 Rw2v0 GLRw2v0 HB_w2
  go_wp2_with fail
  refine (HS.out w3 _ _ _ _ _ _ Rw1v2.out.nums Rw2v1.out.nums Rw3v0.out.nums).mono ?_
  rintro e w4 ⟨rfl, hb⟩
  have Rw1v3 : Hid (Ints w4 (some ⟨g_w1, 0, none⟩) g_w1 vs1) := Rw1v2.out.below hb
  have GLRw1v3 : Hid (g_w1 < w4.heap.size) := Nat.lt_of_lt_of_le GLRw1v2.out hb.size
  have Rw2v2 : Hid (Ints w4 (some ⟨g_w2, 0, none⟩) g_w2 vs2) := Rw2v1.out.below hb
  have GLRw2v2 : Hid (g_w2 < w4.heap.size) := Nat.lt_of_lt_of_le GLRw2v1.out hb.size
  have Rw3v1 : Hid (Ints w4 (some ⟨g_w3, 0, none⟩) g_w3 vs3) := Rw3v0.out.below hb
  have GLRw3v1 : Hid (g_w3 < w4.heap.size) := Nat.lt_of_lt_of_le GLRw3v0.out hb.size
  have HB_w4 : Hid (Below w.heap.size w w4) := HB_w3.out.trans (hb.mono HB_w3.out.size)
  clear hb Rw1v2 GLRw1v2 Rw2v1 GLRw2v1 Rw3v0 GLRw3v0 HB_w3
  clear Rw1v3 GLRw1v3
  clear Rw2v2 GLRw2v2
  clear Rw3v1 GLRw3v1
  go_wp2_with fail
  refine (toInt64S_any w4 b1 vc1 vs1 HN1.out (HK1.out.below HB_w4.out)).mono ?_
  rintro e w5 ⟨g_w5, rfl, hlo, hhi, hi, hb⟩
  have LW_X1 : Hid (w.heap.size ≤ g_w5) := by have h1 : w.heap.size ≤ w4.heap.size := HB_w4.out.size; show w.heap.size ≤ g_w5; omega
  have HB_w5 : Hid (Below w.heap.size w w5) := HB_w4.out.trans (hb.mono HB_w4.out.size)
  have X1v0 : Hid (Ints w5 (some ⟨g_w5, 0, none⟩) g_w5 vs1) := hi
  have GLX1v0 : Hid (g_w5 < w5.heap.size) := hhi
  clear hb hi hlo hhi HB_w4
  go_wp2_with fail
  refine (toInt64S_any w5 b2 vc2 vs2 HN2.out (HK2.out.below HB_w5.out)).mono ?_
  rintro e w6 ⟨g_w6, rfl, hlo, hhi, hi, hb⟩
  have LW_X2 : Hid (w.heap.size ≤ g_w6) := by have h1 : w.heap.size ≤ w5.heap.size := HB_w5.out.size; show w.heap.size ≤ g_w6; omega
  have NE_X1_X2 : Hid (0 < vs1.length → g_w5 ≠ g_w6) := fun h => by have h1 := X1v0.out.lt h; omega
  have NQ_X2_X1 : Hid (g_w6 ≠ g_w5) := by have h1 := GLX1v0.out; show g_w6 ≠ g_w5; omega
  have X1v1 : Hid (Ints w6 (some ⟨g_w5, 0, none⟩) g_w5 vs1) := X1v0.out.below hb
  have GLX1v1 : Hid (g_w5 < w6.heap.size) := Nat.lt_of_lt_of_le GLX1v0.out hb.size
  have HB_w6 : Hid (Below w.heap.size w w6) := HB_w5.out.trans (hb.mono HB_w5.out.size)
  have X2v0 : Hid (Ints w6 (some ⟨g_w6, 0, none⟩) g_w6 vs2) := hi
  have GLX2v0 : Hid (g_w6 < w6.heap.size) := hhi
  clear hb hi hlo hhi X1v0 GLX1v0 HB_w5
  go_wp2_with fail
  refine (toInt64S_any w6 b3 vc3 vs3 HN3.out (HK3.out.below HB_w6.out)).mono ?_
  rintro e w7 ⟨g_w7, rfl, hlo, hhi, hi, hb⟩
  have LW_X3 : Hid (w.heap.size ≤ g_w7) := by have h1 : w.heap.size ≤ w6.heap.size := HB_w6.out.size; show w.heap.size ≤ g_w7; omega
  have NE_X1_X3 : Hid (0 < vs1.length → g_w5 ≠ g_w7) := fun h => by have h1 := X1v1.out.lt h; omega
  have NQ_X3_X1 : Hid (g_w7 ≠ g_w5) := by have h1 := GLX1v1.out; show g_w7 ≠ g_w5; omega
  have NE_X2_X3 : Hid (0 < vs2.length → g_w6 ≠ g_w7) := fun h => by have h1 := X2v0.out.lt h; omega
  have NQ_X3_X2 : Hid (g_w7 ≠ g_w6) := by have h1 := GLX2v0.out; show g_w7 ≠ g_w6; omega
  have X1v2 : Hid (Ints w7 (some ⟨g_w5, 0, none⟩) g_w5 vs1) := X1v1.out.below hb
  have GLX1v2 : Hid (g_w5 < w7.heap.size) := Nat.lt_of_lt_of_le GLX1v1.out hb.size
  have X2v1 : Hid (Ints w7 (some ⟨g_w6, 0, none⟩) g_w6 vs2) := X2v0.out.below hb
  have GLX2v1 : Hid (g_w6 < w7.heap.size) := Nat.lt_of_lt_of_le GLX2v0.out hb.size
  have HB_w7 : Hid (Below w.heap.size w w7) := HB_w6.out.trans (hb.mono HB_w6.out.size)
  have X3v0 : Hid (Ints w7 (some ⟨g_w7, 0, none⟩) g_w7 vs3) := hi
  have GLX3v0 : Hid (g_w7 < w7.heap.size) := hhi
  clear hb hi hlo hhi X1v1 GLX1v1 X2v0 GLX2v0 HB_w6
  go_wp2_with fail
  refine (HI.out w7 _ _ _ _ _ _ X1v2.out.nums X2v1.out.nums X3v0.out.nums).mono ?_
  rintro e w8 ⟨rfl, hb⟩
  have X1v3 : Hid (Ints w8 (some ⟨g_w5, 0, none⟩) g_w5 vs1) := X1v2.out.below hb
  have GLX1v3 : Hid (g_w5 < w8.heap.size) := Nat.lt_of_lt_of_le GLX1v2.out hb.size
  have X2v2 : Hid (Ints w8 (some ⟨g_w6, 0, none⟩) g_w6 vs2) := X2v1.out.below hb
  have GLX2v2 : Hid (g_w6 < w8.heap.size) := Nat.lt_of_lt_of_le GLX2v1.out hb.size
  have X3v1 : Hid (Ints w8 (some ⟨g_w7, 0, none⟩) g_w7 vs3) := X3v0.out.below hb
  have GLX3v1 : Hid (g_w7 < w8.heap.size) := Nat.lt_of_lt_of_le GLX3v0.out hb.size
  have HB_w8 : Hid (Below w.heap.size w w8) := HB_w7.out.trans (hb.mono HB_w7.out.size)
  clear hb X1v2 GLX1v2 X2v1 GLX2v1 X3v0 GLX3v0 HB_w7
  go_wp2_with fail
  refine (toInt64S_any w8 b1 vc1 vs1 HN1.out (HK1.out.below HB_w8.out)).mono ?_
  rintro e w9 ⟨g_w9, rfl, hlo, hhi, hi, hb⟩
  have LW_Rw9 : Hid (w.heap.size ≤ g_w9) := by have h1 : w.heap.size ≤ w8.heap.size := HB_w8.out.size; show w.heap.size ≤ g_w9; omega
  have NE_X1_Rw9 : Hid (0 < vs1.length → g_w5 ≠ g_w9) := fun h => by have h1 := X1v3.out.lt h; omega
  have NQ_Rw9_X1 : Hid (g_w9 ≠ g_w5) := by have h1 := GLX1v3.out; show g_w9 ≠ g_w5; omega
  have NE_X2_Rw9 : Hid (0 < vs2.length → g_w6 ≠ g_w9) := fun h => by have h1 := X2v2.out.lt h; omega
  have NQ_Rw9_X2 : Hid (g_w9 ≠ g_w6) := by have h1 := GLX2v2.out; show g_w9 ≠ g_w6; omega
  have NE_X3_Rw9 : Hid (0 < vs3.length → g_w7 ≠ g_w9) := fun h => by have h1 := X3v1.out.lt h; omega
  have NQ_Rw9_X3 : Hid (g_w9 ≠ g_w7) := by have h1 := GLX3v1.out; show g_w9 ≠ g_w7; omega
  have X1v4 : Hid (Ints w9 (some ⟨g_w5, 0, none⟩) g_w5 vs1) := X1v3.out.below hb
  have GLX1v4 : Hid (g_w5 < w9.heap.size) := Nat.lt_of_lt_of_le GLX1v3.out hb.size
  have X2v3 : Hid (Ints w9 (some ⟨g_w6, 0, none⟩) g_w6 vs2) := X2v2.out.below hb
  have GLX2v3 : Hid (g_w6 < w9.heap.size) := Nat.lt_of_lt_of_le GLX2v2.out hb.size
  have X3v2 : Hid (Ints w9 (some ⟨g_w7, 0, none⟩) g_w7 vs3) := X3v1.out.below hb
  have GLX3v2 : Hid (g_w7 < w9.heap.size) := Nat.lt_of_lt_of_le GLX3v1.out hb.size
  have HB_w9 : Hid (Below w.heap.size w w9) := HB_w8.out.trans (hb.mono HB_w8.out.size)
  have Rw9v0 : Hid (Ints w9 (some ⟨g_w9, 0, none⟩) g_w9 vs1) := hi
  have GLRw9v0 : Hid (g_w9 < w9.heap.size) := hhi
  clear hb hi hlo hhi X1v3 GLX1v3 X2v2 GLX2v2 X3v1 GLX3v1 HB_w8
  go_wp2_with fail
  refine (eqInt64S_same w9 (some ⟨g_w5, 0, none⟩) (some ⟨g_w9, 0, none⟩) g_w5 g_w9 vs1.length vs1.length vs1 HN1.out X1v4.out Rw9v0.out).mono ?_
  rintro e w10 ⟨rfl, hb⟩
  have X1v5 : Hid (Ints w10 (some ⟨g_w5, 0, none⟩) g_w5 vs1) := X1v4.out.below hb
  have GLX1v5 : Hid (g_w5 < w10.heap.size) := Nat.lt_of_lt_of_le GLX1v4.out hb.size
  have X2v4 : Hid (Ints w10 (some ⟨g_w6, 0, none⟩) g_w6 vs2) := X2v3.out.below hb
  have GLX2v4 : Hid (g_w6 < w10.heap.size) := Nat.lt_of_lt_of_le GLX2v3.out hb.size
  have X3v3 : Hid (Ints w10 (some ⟨g_w7, 0, none⟩) g_w7 vs3) := X3v2.out.below hb
  have GLX3v3 : Hid (g_w7 < w10.heap.size) := Nat.lt_of_lt_of_le GLX3v2.out hb.size
  have Rw9v1 : Hid (Ints w10 (some ⟨g_w9, 0, none⟩) g_w9 vs1) := Rw9v0.out.below hb
  have GLRw9v1 : Hid (g_w9 < w10.heap.size) := Nat.lt_of_lt_of_le GLRw9v0.out hb.size
  have HB_w10 : Hid (Below w.heap.size w w10) := HB_w9.out.trans (hb.mono HB_w9.out.size)
  clear hb X1v4 GLX1v4 X2v3 GLX2v3 X3v2 GLX3v2 Rw9v0 GLRw9v0 HB_w9
  clear Rw9v1 GLRw9v1
  go_wp2_with fail
  refine (toInt64S_any w10 b2 vc2 vs2 HN2.out (HK2.out.below HB_w10.out)).mono ?_
  rintro e w11 ⟨g_w11, rfl, hlo, hhi, hi, hb⟩
  have LW_Rw11 : Hid (w.heap.size ≤ g_w11) := by have h1 : w.heap.size ≤ w10.heap.size := HB_w10.out.size; show w.heap.size ≤ g_w11; omega
  have NE_X1_Rw11 : Hid (0 < vs1.length → g_w5 ≠ g_w11) := fun h => by have h1 := X1v5.out.lt h; omega
  have NQ_Rw11_X1 : Hid (g_w11 ≠ g_w5) := by have h1 := GLX1v5.out; show g_w11 ≠ g_w5; omega
  have NE_X2_Rw11 : Hid (0 < vs2.length → g_w6 ≠ g_w11) := fun h => by have h1 := X2v4.out.lt h; omega
  have NQ_Rw11_X2 : Hid (g_w11 ≠ g_w6) := by have h1 := GLX2v4.out; show g_w11 ≠ g_w6; omega
  have NE_X3_Rw11 : Hid (0 < vs3.length → g_w7 ≠ g_w11) := fun h => by have h1 := X3v3.out.lt h; omega
  have NQ_Rw11_X3 : Hid (g_w11 ≠ g_w7) := by have h1 := GLX3v3.out; show g_w11 ≠ g_w7; omega
  have X1v6 : Hid (Ints w11 (some ⟨g_w5, 0, none⟩) g_w5 vs1) := X1v5.out.below hb
  have GLX1v6 : Hid (g_w5 < w11.heap.size) := Nat.lt_of_lt_of_le GLX1v5.out hb.size
  have X2v5 : Hid (Ints w11 (some ⟨g_w6, 0, none⟩) g_w6 vs2) := X2v4.out.below hb
  have GLX2v5 : Hid (g_w6 < w11.heap.size) := Nat.lt_of_lt_of_le GLX2v4.out hb.size
  have X3v4 : Hid (Ints w11 (some ⟨g_w7, 0, none⟩) g_w7 vs3) := X3v3.out.below hb
  have GLX3v4 : Hid (g_w7 < w11.heap.size) := Nat.lt_of_lt_of_le GLX3v3.out hb.size
  have HB_w11 : Hid (Below w.heap.size w w11) := HB_w10.out.trans (hb.mono HB_w10.out.size)
  have Rw11v0 : Hid (Ints w11 (some ⟨g_w11, 0, none⟩) g_w11 vs2) := hi
  have GLRw11v0 : Hid (g_w11 < w11.heap.size) := hhi
  clear hb hi hlo hhi X1v5 GLX1v5 X2v4 GLX2v4 X3v3 GLX3v3 HB_w10
  go_wp2_with fail
  refine (eqInt64S_same w11 (some ⟨g_w6, 0, none⟩) (some ⟨g_w11, 0, none⟩) g_w6 g_w11 vs2.length vs2.length vs2 HN2.out X2v5.out Rw11v0.out).mono ?_
  rintro e w12 ⟨rfl, hb⟩
  have X1v7 : Hid (Ints w12 (some ⟨g_w5, 0, none⟩) g_w5 vs1) := X1v6.out.below hb
  have GLX1v7 : Hid (g_w5 < w12.heap.size) := Nat.lt_of_lt_of_le GLX1v6.out hb.size
  have X2v6 : Hid (Ints w12 (some ⟨g_w6, 0, none⟩) g_w6 vs2) := X2v5.out.below hb
  have GLX2v6 : Hid (g_w6 < w12.heap.size) := Nat.lt_of_lt_of_le GLX2v5.out hb.size
  have X3v5 : Hid (Ints w12 (some ⟨g_w7, 0, none⟩) g_w7 vs3) := X3v4.out.below hb
  have GLX3v5 : Hid (g_w7 < w12.heap.size) := Nat.lt_of_lt_of_le GLX3v4.out hb.size
  have Rw11v1 : Hid (Ints w12 (some ⟨g_w11, 0, none⟩) g_w11 vs2) := Rw11v0.out.below hb
  have GLRw11v1 : Hid (g_w11 < w12.heap.size) := Nat.lt_of_lt_of_le GLRw11v0.out hb.size
  have HB_w12 : Hid (Below w.heap.size w w12) := HB_w11.out.trans (hb.mono HB_w11.out.size)
  clear hb X1v6 GLX1v6 X2v5 GLX2v5 X3v4 GLX3v4 Rw11v0 GLRw11v0 HB_w11
  clear Rw11v1 GLRw11v1
  go_wp2_with fail
  refine (toInt64S_any w12 b3 vc3 vs3 HN3.out (HK3.out.below HB_w12.out)).mono ?_
  rintro e w13 ⟨g_w13, rfl, hlo, hhi, hi, hb⟩
  have LW_Rw13 : Hid (w.heap.size ≤ g_w13) := by have h1 : w.heap.size ≤ w12.heap.size := HB_w12.out.size; show w.heap.size ≤ g_w13; omega
  have NE_X1_Rw13 : Hid (0 < vs1.length → g_w5 ≠ g_w13) := fun h => by have h1 := X1v7.out.lt h; omega
  have NQ_Rw13_X1 : Hid (g_w13 ≠ g_w5) := by have h1 := GLX1v7.out; show g_w13 ≠ g_w5; omega
  have NE_X2_Rw13 : Hid (0 < vs2.length → g_w6 ≠ g_w13) := fun h => by have h1 := X2v6.out.lt h; omega
  have NQ_Rw13_X2 : Hid (g_w13 ≠ g_w6) := by have h1 := GLX2v6.out; show g_w13 ≠ g_w6; omega
  have NE_X3_Rw13 : Hid (0 < vs3.length → g_w7 ≠ g_w13) := fun h => by have h1 := X3v5.out.lt h; omega
  have NQ_Rw13_X3 : Hid (g_w13 ≠ g_w7) := by have h1 := GLX3v5.out; show g_w13 ≠ g_w7; omega
  have X1v8 : Hid (Ints w13 (some ⟨g_w5, 0, none⟩) g_w5 vs1) := X1v7.out.below hb
  have GLX1v8 : Hid (g_w5 < w13.heap.size) := Nat.lt_of_lt_of_le GLX1v7.out hb.size
  have X2v7 : Hid (Ints w13 (some ⟨g_w6, 0, none⟩) g_w6 vs2) := X2v6.out.below hb
  have GLX2v7 : Hid (g_w6 < w13.heap.size) := Nat.lt_of_lt_of_le GLX2v6.out hb.size
  have X3v6 : Hid (Ints w13 (some ⟨g_w7, 0, none⟩) g_w7 vs3) := X3v5.out.below hb
  have GLX3v6 : Hid (g_w7 < w13.heap.size) := Nat.lt_of_lt_of_le GLX3v5.out hb.size
  have HB_w13 : Hid (Below w.heap.size w w13) := HB_w12.out.trans (hb.mono HB_w12.out.size)
  have Rw13v0 : Hid (Ints w13 (some ⟨g_w13, 0, none⟩) g_w13 vs3) := hi
  have GLRw13v0 : Hid (g_w13 < w13.heap.size) := hhi
  clear hb hi hlo hhi X1v7 GLX1v7 X2v6 GLX2v6 X3v5 GLX3v5 HB_w12
  go_wp2_with fail
  refine (eqInt64S_same w13 (some ⟨g_w7, 0, none⟩) (some ⟨g_w13, 0, none⟩) g_w7 g_w13 vs3.length vs3.length vs3 HN3.out X3v6.out Rw13v0.out).mono ?_
  rintro e w14 ⟨rfl, hb⟩
  have X1v9 : Hid (Ints w14 (some ⟨g_w5, 0, none⟩) g_w5 vs1) := X1v8.out.below hb
  have GLX1v9 : Hid (g_w5 < w14.heap.size) := Nat.lt_of_lt_of_le GLX1v8.out hb.size
  have X2v8 : Hid (Ints w14 (some ⟨g_w6, 0, none⟩) g_w6 vs2) := X2v7.out.below hb
  have GLX2v8 : Hid (g_w6 < w14.heap.size) := Nat.lt_of_lt_of_le GLX2v7.out hb.size
  have X3v7 : Hid (Ints w14 (some ⟨g_w7, 0, none⟩) g_w7 vs3) := X3v6.out.below hb
  have GLX3v7 : Hid (g_w7 < w14.heap.size) := Nat.lt_of_lt_of_le GLX3v6.out hb.size
  have Rw13v1 : Hid (Ints w14 (some ⟨g_w13, 0, none⟩) g_w13 vs3) := Rw13v0.out.below hb
  have GLRw13v1 : Hid (g_w13 < w14.heap.size) := Nat.lt_of_lt_of_le GLRw13v0.out hb.size
  have HB_w14 : Hid (Below w.heap.size w w14) := HB_w13.out.trans (hb.mono HB_w13.out.size)
  clear hb X1v8 GLX1v8 X2v7 GLX2v7 X3v6 GLX3v6 Rw13v0 GLRw13v0 HB_w13
  clear Rw13v1 GLRw13v1
  go_wp2
  go_ret
  exact ⟨rfl, HB_w14.out⟩

set_option maxRecDepth 100000 in
theorem lifted (os : Os) (started : os.Started) (H : Type) (enc : TypeId × Value → H) :
    ReturnsInHanded {} Try.checked os 3 .any (Rows.fnExactPatchedSpec.pre6 enc Try.prog Try.f3 Rows.fnExactPatchedRow.domain false) (Rows.fnExactPatchedSpec.post enc Try.prog Try.f3 false true false false) := by
  refine returnsInHanded_of_change (C := Try.checked) own started (by kernel_rfl) Try.func3
    (ChangeSpec.witness6 (enc := enc) (C := Try.checked) false ⟨#[], #[.string ByteArray.empty, .slice none 0 0, .slice none 0 0, .slice none 0 0], []⟩ 8 (by kernel_rfl) (by kernel_rfl) (by kernel_rfl) (by kernel_rfl)) ?_
  intro W base args ds gs before hval0 hW hcnd _
  have hval : ∀ (j : Nat) t v, Try.f3.params[j]? = some t → args[j]? = some v → Value.okWide Try.prog W .any base t v := hval0
  have hW' := hW
  obtain ⟨p, q, hA0, hV, rfl, hfz, hnd⟩ := hW
  have hA : DataW.TrodAll enc Try.prog W 0 (fun _ => true) true Try.f3.params.toList args.toList ds p := hA0
  rw [Try.params3] at hA hval
  obtain ⟨v0, vs_0, d0, ds0, p0, q0, hargs, rfl, rfl, h0, r0⟩ := trodAll_cons hA
  obtain ⟨v1, vs_1, d1, ds1, p1, q1, rfl, rfl, rfl, h1, r1⟩ := trodAll_cons r0
  obtain ⟨v2, vs_2, d2, ds2, p2, q2, rfl, rfl, rfl, h2, r2⟩ := trodAll_cons r1
  obtain ⟨v3, vs_3, d3, ds3, p3, q3, rfl, rfl, rfl, h3, r3⟩ := trodAll_cons r2
  obtain ⟨rfl, rfl, rfl⟩ := trodAll_nil r3
  obtain rfl : args = #[v0, v1, v2, v3] := by cases args; simp_all
  obtain ⟨rfl, rfl⟩ := trodVars_none hV
  obtain ⟨s0, rfl, rfl, rfl, hs0⟩ := Go.ChangeMaps.open_string Try.underlying9 (hval 0 9 v0 rfl rfl) h0
  have k_1 := h1
  have lt_1 : ∀ x ∈ p1, x.block < W.heap.size := by obtain ⟨m, hm⟩ := k_1; exact DataW.trod_lt m _ _ _ hm
  obtain ⟨b1, vc1, vs1, rfl, hn1, hk1, hw1⟩ := numsw_of (hval 1 22 v1 rfl rfl) h1
  have k_2 := h2
  have lt_2 : ∀ x ∈ p2, x.block < W.heap.size := by obtain ⟨m, hm⟩ := k_2; exact DataW.trod_lt m _ _ _ hm
  obtain ⟨b2, vc2, vs2, rfl, hn2, hk2, hw2⟩ := numsw_of (hval 2 22 v2 rfl rfl) h2
  have k_3 := h3
  have lt_3 : ∀ x ∈ p3, x.block < W.heap.size := by obtain ⟨m, hm⟩ := k_3; exact DataW.trod_lt m _ _ _ hm
  obtain ⟨b3, vc3, vs3, rfl, hn3, hk3, hw3⟩ := numsw_of (hval 3 22 v3 rfl rfl) h3
  clear hA0 hval0
  refine (walk s0 b1 vc1 vs1 b2 vc2 vs2 b3 vc3 vs3 W hs0 hk1 hn1 hw1 hk2 hn2 hw2 hk3 hn3 hw3).mono fun e W' ⟨he, bel⟩ => ?_
  subst he
  exact ⟨_, rfl, _, _, _, [], _, [], hW', trodAll_mk1 (shut_bool Try.underlying4 _), (trodAll_cons_mk (Go.ChangeMaps.shut_string Try.underlying9 hs0) (trodAll_cons_mk (Below.trod laidOut (by kernel_rfl) (of_decide_eq_true (by kernel_rfl)) k_1 bel lt_1) (trodAll_cons_mk (Below.trod laidOut (by kernel_rfl) (of_decide_eq_true (by kernel_rfl)) k_2 bel lt_2) (trodAll_cons_mk (Below.trod laidOut (by kernel_rfl) (of_decide_eq_true (by kernel_rfl)) k_3 bel lt_3) trodAll_mk0)))), rfl, bel.frame _, fun h => by cases h⟩

theorem over : Rows.fnExactPatchedRow.holds Try.pinned (OpenSpec.ofChange Rows.fnExactPatchedSpec) :=
  OpenClaim.holds_of_wide 3 Try.f3 rfl rfl rfl rfl rfl rfl rfl ⟨rfl, rfl, rfl, rfl, rfl⟩ rfl rfl rfl rfl rfl (by kernel_rfl) Try.func3 (by kernel_rfl)
    (of_decide_eq_true (by kernel_rfl)) (by unfold Func.isWrapper; first | (rw [if_pos (by decide +kernel)]; kernel_rfl) | (rw [if_neg (by decide +kernel)]; exact ⟨rfl, rfl⟩))
    (fun os started H enc _ => lifted os started H enc)

theorem proved : Rows.FnExactPatchedSaid := over
#print axioms proved
end Go.Proofs.Ytjdlphebnhkghaa.fnExactPatched
