/-
  FnExactDenyOf: for every slice of answers the law that holds the program's DenyOf against the specification's DenyOf returns true, and the slice reads as before; no condition.
-/
import Derived.Test.YtffejdggpoaniaaDeny
import Derived.ProofKit
import Derived.OpenShut
import Derived.ShutString
import Derived.ChangeOld
import Derived.Below
import Derived.Lib.SmallJoins
namespace Go.Proofs.Ytffejdggpoaniaa.fnExactDenyOf
open Go.ChangeShapes Go.WideShapes Go.ChangeAt Go.RowKit
open ints inr ans

theorem own : ownKnob Try.prog.godebug = none := by kernel_rfl
theorem laidOut : laidOutB Try.prog = true := by kernel_rfl


set_option linter.unusedVariables false in
set_option maxHeartbeats 4000000 in
set_option maxRecDepth 20000 in
theorem walk (b0 : Option Addr) (vc0 n0 : Nat) (vs0 : List Int) (w : World) (hx0 : vs0.length = n0 * 2) (hk0 : Nums w b0 vs0) (hn0 : n0 ≤ maxLen) :
    Calls Try.prog 3 #[.slice b0 n0 vc0] w fun e w' => e = .returned (.bool true) ∧ Below w.heap.size w w' := by
  have HX0 : Hid (vs0.length = n0 * 2) := hx0
  have HK0 : Hid (Nums w b0 vs0) := hk0
  have HSZ : Hid (Calls _ _ _ w _) := szAnswerS_any w b0 n0 vc0 hn0
  unfold maxLen at hn0
  by_cases hle : (n0 : Int) ≤ 1048576
  case neg =>
    rw [if_neg hle] at HSZ
    clear hx0 hk0 hn0 hle
    go_enter Try.func3, Try.ntmps3
    go_wp2_with fail
    refine HSZ.out.mono ?_
    rintro e w0 ⟨rfl, rfl⟩
    go_wp2
    go_ret
    exact ⟨rfl, Below.refl _ _⟩
  rw [if_pos hle] at HSZ
  obtain ⟨left, hleft⟩ : ∃ l : Int, l = 1048576 - (n0 : Int) := ⟨_, rfl⟩
  have hl0 : ¬ left < 0 := by omega
  rw [← hleft] at HSZ
  have hN0 : n0 ≤ 1048576 := by omega
  have HN0 : Hid (n0 ≤ 1048576) := hN0
  have HS : Hid (∀ (w : World) (a0 : Option Addr) (k0 : Nat), Nums w a0 vs0 → _) := fun w a0 k0 q0 => spec_deny w a0 k0 n0 vs0 hx0 q0 hN0
  have HI : Hid (∀ (w : World) (a0 : Option Addr) (k0 : Nat), Nums w a0 vs0 → _) := fun w a0 k0 q0 => impl_deny w a0 k0 n0 vs0 hx0 q0 hN0
  have hbnd : (denyV vs0 n0).length ≤ 1048576 := by have := denyV_len vs0 n0; omega
  have hxl : (denyV vs0 n0).length ≤ 1048576 := hbnd
  generalize denyV vs0 n0 = xs at HS HI hxl
  have HXL : Hid (xs.length ≤ 1048576) := hxl
  have hq0 : (((1 + xs.length : Nat) : Int) != ((1 + xs.length : Nat) : Int)) = false := by simp
  have hq1 : ¬ ((1 + xs.length : Nat) : Int) < 0 := by omega
  clear hxl hbnd
  clear hk0 hN0 hn0 hx0 hle hleft
  go_enter Try.func3, Try.ntmps3
  go_wp2_with fail
  refine HSZ.out.mono ?_
  rintro e w0 ⟨rfl, rfl⟩
  go_wp2_with fail
  refine (toAnswerS_any w b0 vc0 n0 vs0 HX0.out HN0.out (HK0.out)).mono ?_
  rintro e w1 ⟨g_w1, rfl, hlo, hhi, hi, hb⟩
  have LW_Rw1 : Hid (w.heap.size ≤ g_w1) := by have h1 : w.heap.size ≤ w.heap.size := Nat.le_refl _; show w.heap.size ≤ g_w1; omega
  have HB_w1 : Hid (Below w.heap.size w w1) := hb
  have Rw1v0 : Hid (Ints w1 (some ⟨g_w1, 0, none⟩) g_w1 vs0) := hi
  have GLRw1v0 : Hid (g_w1 < w1.heap.size) := hhi
  clear hb hi hlo hhi 
  go_wp2_with fail
  refine (HS.out w1 _ _ Rw1v0.out.nums).mono ?_
  rintro e w2 ⟨v, rfl, hown, hb⟩
  obtain ⟨a_w2, g_w2, c_w2, rfl, hlo, hi⟩ := ints_of_row hown
  have LW_S : Hid (w.heap.size ≤ g_w2) := by have h1 : w.heap.size ≤ w1.heap.size := HB_w1.out.size; show w.heap.size ≤ g_w2; omega
  have NE_Rw1_S : Hid (0 < vs0.length → g_w1 ≠ g_w2) := fun h => by have h1 := Rw1v0.out.lt h; omega
  have NQ_S_Rw1 : Hid (g_w2 ≠ g_w1) := by have h1 := GLRw1v0.out; show g_w2 ≠ g_w1; omega
  have Rw1v1 : Hid (Ints w2 (some ⟨g_w1, 0, none⟩) g_w1 vs0) := Rw1v0.out.below hb
  have GLRw1v1 : Hid (g_w1 < w2.heap.size) := Nat.lt_of_lt_of_le GLRw1v0.out hb.size
  have HB_w2 : Hid (Below w.heap.size w w2) := HB_w1.out.trans (hb.mono HB_w1.out.size)
  have Sv0 : Hid (Ints w2 a_w2 g_w2 xs) := hi
  clear hb hi hlo hown Rw1v0 GLRw1v0 HB_w1
  clear Rw1v1 GLRw1v1
  go_wp2_with fail
  refine (toAnswerS_any w2 b0 vc0 n0 vs0 HX0.out HN0.out (HK0.out.below HB_w2.out)).mono ?_
  rintro e w3 ⟨g_w3, rfl, hlo, hhi, hi, hb⟩
  have LW_X0 : Hid (w.heap.size ≤ g_w3) := by have h1 : w.heap.size ≤ w2.heap.size := HB_w2.out.size; show w.heap.size ≤ g_w3; omega
  have NE_S_X0 : Hid (0 < xs.length → g_w2 ≠ g_w3) := fun h => by have h1 := Sv0.out.lt h; omega
  have Sv1 : Hid (Ints w3 a_w2 g_w2 xs) := Sv0.out.below hb
  have HB_w3 : Hid (Below w.heap.size w w3) := HB_w2.out.trans (hb.mono HB_w2.out.size)
  have X0v0 : Hid (Ints w3 (some ⟨g_w3, 0, none⟩) g_w3 vs0) := hi
  have GLX0v0 : Hid (g_w3 < w3.heap.size) := hhi
  clear hb hi hlo hhi Sv0 HB_w2
  go_wp2_with fail
  refine (HI.out w3 _ _ X0v0.out.nums).mono ?_
  rintro e w4 ⟨v, rfl, hown, hb⟩
  obtain ⟨a_w4, g_w4, c_w4, rfl, hlo, hi⟩ := ints_of_row hown
  have LW_G : Hid (w.heap.size ≤ g_w4) := by have h1 : w.heap.size ≤ w3.heap.size := HB_w3.out.size; show w.heap.size ≤ g_w4; omega
  have NE_S_G : Hid (0 < xs.length → g_w2 ≠ g_w4) := fun h => by have h1 := Sv1.out.lt h; omega
  have NE_X0_G : Hid (0 < vs0.length → g_w3 ≠ g_w4) := fun h => by have h1 := X0v0.out.lt h; omega
  have NQ_G_X0 : Hid (g_w4 ≠ g_w3) := by have h1 := GLX0v0.out; show g_w4 ≠ g_w3; omega
  have Sv2 : Hid (Ints w4 a_w2 g_w2 xs) := Sv1.out.below hb
  have X0v1 : Hid (Ints w4 (some ⟨g_w3, 0, none⟩) g_w3 vs0) := X0v0.out.below hb
  have GLX0v1 : Hid (g_w3 < w4.heap.size) := Nat.lt_of_lt_of_le GLX0v0.out hb.size
  have HB_w4 : Hid (Below w.heap.size w w4) := HB_w3.out.trans (hb.mono HB_w3.out.size)
  have Gv0 : Hid (Ints w4 a_w4 g_w4 xs) := hi
  clear hb hi hlo hown Sv1 X0v0 GLX0v0 HB_w3
  go_wp2_with fail
  refine (eqInt64S_same w4 a_w4 a_w2 g_w4 g_w2 c_w4 c_w2 xs HXL.out Gv0.out Sv2.out).mono ?_
  rintro e w5 ⟨rfl, hb⟩
  have Sv3 : Hid (Ints w5 a_w2 g_w2 xs) := Sv2.out.below hb
  have X0v2 : Hid (Ints w5 (some ⟨g_w3, 0, none⟩) g_w3 vs0) := X0v1.out.below hb
  have GLX0v2 : Hid (g_w3 < w5.heap.size) := Nat.lt_of_lt_of_le GLX0v1.out hb.size
  have Gv1 : Hid (Ints w5 a_w4 g_w4 xs) := Gv0.out.below hb
  have HB_w5 : Hid (Below w.heap.size w w5) := HB_w4.out.trans (hb.mono HB_w4.out.size)
  clear hb Sv2 X0v1 GLX0v1 Gv0 HB_w4
  go_wp2_with fail
  refine (toAnswerS_any w5 b0 vc0 n0 vs0 HX0.out HN0.out (HK0.out.below HB_w5.out)).mono ?_
  rintro e w6 ⟨g_w6, rfl, hlo, hhi, hi, hb⟩
  have LW_Rw6 : Hid (w.heap.size ≤ g_w6) := by have h1 : w.heap.size ≤ w5.heap.size := HB_w5.out.size; show w.heap.size ≤ g_w6; omega
  have NE_S_Rw6 : Hid (0 < xs.length → g_w2 ≠ g_w6) := fun h => by have h1 := Sv3.out.lt h; omega
  have NE_X0_Rw6 : Hid (0 < vs0.length → g_w3 ≠ g_w6) := fun h => by have h1 := X0v2.out.lt h; omega
  have NQ_Rw6_X0 : Hid (g_w6 ≠ g_w3) := by have h1 := GLX0v2.out; show g_w6 ≠ g_w3; omega
  have NE_G_Rw6 : Hid (0 < xs.length → g_w4 ≠ g_w6) := fun h => by have h1 := Gv1.out.lt h; omega
  have Sv4 : Hid (Ints w6 a_w2 g_w2 xs) := Sv3.out.below hb
  have X0v3 : Hid (Ints w6 (some ⟨g_w3, 0, none⟩) g_w3 vs0) := X0v2.out.below hb
  have GLX0v3 : Hid (g_w3 < w6.heap.size) := Nat.lt_of_lt_of_le GLX0v2.out hb.size
  have Gv2 : Hid (Ints w6 a_w4 g_w4 xs) := Gv1.out.below hb
  have HB_w6 : Hid (Below w.heap.size w w6) := HB_w5.out.trans (hb.mono HB_w5.out.size)
  have Rw6v0 : Hid (Ints w6 (some ⟨g_w6, 0, none⟩) g_w6 vs0) := hi
  have GLRw6v0 : Hid (g_w6 < w6.heap.size) := hhi
  clear hb hi hlo hhi Sv3 X0v2 GLX0v2 Gv1 HB_w5
  go_wp2_with fail
  refine (eqAnswerS_same w6 (some ⟨g_w3, 0, none⟩) (some ⟨g_w6, 0, none⟩) g_w3 g_w6 n0 n0 n0 vs0 HX0.out HN0.out X0v3.out Rw6v0.out).mono ?_
  rintro e w7 ⟨rfl, hb⟩
  have Sv5 : Hid (Ints w7 a_w2 g_w2 xs) := Sv4.out.below hb
  have X0v4 : Hid (Ints w7 (some ⟨g_w3, 0, none⟩) g_w3 vs0) := X0v3.out.below hb
  have GLX0v4 : Hid (g_w3 < w7.heap.size) := Nat.lt_of_lt_of_le GLX0v3.out hb.size
  have Gv3 : Hid (Ints w7 a_w4 g_w4 xs) := Gv2.out.below hb
  have Rw6v1 : Hid (Ints w7 (some ⟨g_w6, 0, none⟩) g_w6 vs0) := Rw6v0.out.below hb
  have GLRw6v1 : Hid (g_w6 < w7.heap.size) := Nat.lt_of_lt_of_le GLRw6v0.out hb.size
  have HB_w7 : Hid (Below w.heap.size w w7) := HB_w6.out.trans (hb.mono HB_w6.out.size)
  clear hb Sv4 X0v3 GLX0v3 Gv2 Rw6v0 GLRw6v0 HB_w6
  clear Rw6v1 GLRw6v1
  go_wp2_with fail
  refine (markAnswerS_any w7 (some ⟨g_w3, 0, none⟩) g_w3 n0 n0 vs0 1 HX0.out X0v4.out HN0.out (by omega)).mono ?_
  rintro e w8 ⟨rfl, hg, hm⟩
  have Sv6 : Hid (Ints w8 a_w2 g_w2 xs) := Sv5.out.grown2 hg NE_S_X0.out
  have Gv4 : Hid (Ints w8 a_w4 g_w4 xs) := Gv3.out.grown2 hg (fun _ => NQ_G_X0.out)
  have HB_w8 : Hid (Below w.heap.size w w8) := HB_w7.out.trans (below_of_grown hg HB_w7.out.size LW_X0.out)
  clear hg hm Sv5 X0v4 GLX0v4 Gv3 HB_w7
  obtain ⟨kk0, hkk0⟩ : ∃ k : Nat, k = 1 + n0 * 2 := ⟨_, rfl⟩
  have hkb0 : kk0 ≤ 2097153 := by have := HN0.out; omega
  rw [← hkk0]
  clear hkk0
  have hk0 : ¬ (kk0 : Int) < 0 := by omega
  go_wp2_with fail
  refine (eqInt64S_same w8 a_w4 a_w2 g_w4 g_w2 c_w4 c_w2 xs HXL.out Gv4.out Sv6.out).mono ?_
  rintro e w9 ⟨rfl, hb⟩
  have Sv7 : Hid (Ints w9 a_w2 g_w2 xs) := Sv6.out.below hb
  have Gv5 : Hid (Ints w9 a_w4 g_w4 xs) := Gv4.out.below hb
  have HB_w9 : Hid (Below w.heap.size w w9) := HB_w8.out.trans (hb.mono HB_w8.out.size)
  clear hb Sv6 Gv4 HB_w8
  go_wp2_with fail
  refine (markInt64S_any w9 a_w4 g_w4 xs.length c_w4 xs 1 rfl Gv5.out HXL.out (by omega)).mono ?_
  rintro e w10 ⟨rfl, hg, hm⟩
  have Sv8 : Hid (Ints w10 a_w2 g_w2 xs) := Sv7.out.grown2 hg NE_S_G.out
  have HB_w10 : Hid (Below w.heap.size w w10) := HB_w9.out.trans (below_of_grown hg HB_w9.out.size LW_G.out)
  have Gv6 : Hid (Ints w10 a_w4 g_w4 (marks 1 xs.length)) := hm
  clear hg hm Sv7 Gv5 HB_w9
  go_wp2_with fail
  refine (heldInt64S_any w10 a_w4 g_w4 xs.length c_w4 1 Gv6.out HXL.out (by omega)).mono ?_
  rintro e w11 ⟨rfl, hb⟩
  have Sv9 : Hid (Ints w11 a_w2 g_w2 xs) := Sv8.out.below hb
  have Gv7 : Hid (Ints w11 a_w4 g_w4 (marks 1 xs.length)) := Gv6.out.below hb
  have HB_w11 : Hid (Below w.heap.size w w11) := HB_w10.out.trans (hb.mono HB_w10.out.size)
  clear hb Sv8 Gv6 HB_w10
  go_wp2_with fail
  refine (toAnswerS_any w11 b0 vc0 n0 vs0 HX0.out HN0.out (HK0.out.below HB_w11.out)).mono ?_
  rintro e w12 ⟨g_w12, rfl, hlo, hhi, hi, hb⟩
  have LW_Rw12 : Hid (w.heap.size ≤ g_w12) := by have h1 : w.heap.size ≤ w11.heap.size := HB_w11.out.size; show w.heap.size ≤ g_w12; omega
  have NE_S_Rw12 : Hid (0 < xs.length → g_w2 ≠ g_w12) := fun h => by have h1 := Sv9.out.lt h; omega
  have NE_G_Rw12 : Hid (0 < (marks 1 xs.length).length → g_w4 ≠ g_w12) := fun h => by have h1 := Gv7.out.lt h; omega
  have Sv10 : Hid (Ints w12 a_w2 g_w2 xs) := Sv9.out.below hb
  have Gv8 : Hid (Ints w12 a_w4 g_w4 (marks 1 xs.length)) := Gv7.out.below hb
  have HB_w12 : Hid (Below w.heap.size w w12) := HB_w11.out.trans (hb.mono HB_w11.out.size)
  have Rw12v0 : Hid (Ints w12 (some ⟨g_w12, 0, none⟩) g_w12 vs0) := hi
  have GLRw12v0 : Hid (g_w12 < w12.heap.size) := hhi
  clear hb hi hlo hhi Sv9 Gv7 HB_w11
  go_wp2_with fail
  refine (HI.out w12 _ _ Rw12v0.out.nums).mono ?_
  rintro e w13 ⟨v, rfl, hown, hb⟩
  obtain ⟨a_w13, g_w13, c_w13, rfl, hlo, hi⟩ := ints_of_row hown
  have LW_Hh : Hid (w.heap.size ≤ g_w13) := by have h1 : w.heap.size ≤ w12.heap.size := HB_w12.out.size; show w.heap.size ≤ g_w13; omega
  have NE_S_Hh : Hid (0 < xs.length → g_w2 ≠ g_w13) := fun h => by have h1 := Sv10.out.lt h; omega
  have NE_G_Hh : Hid (0 < (marks 1 xs.length).length → g_w4 ≠ g_w13) := fun h => by have h1 := Gv8.out.lt h; omega
  have NE_Rw12_Hh : Hid (0 < vs0.length → g_w12 ≠ g_w13) := fun h => by have h1 := Rw12v0.out.lt h; omega
  have NQ_Hh_Rw12 : Hid (g_w13 ≠ g_w12) := by have h1 := GLRw12v0.out; show g_w13 ≠ g_w12; omega
  have Sv11 : Hid (Ints w13 a_w2 g_w2 xs) := Sv10.out.below hb
  have Gv9 : Hid (Ints w13 a_w4 g_w4 (marks 1 xs.length)) := Gv8.out.below hb
  have Rw12v1 : Hid (Ints w13 (some ⟨g_w12, 0, none⟩) g_w12 vs0) := Rw12v0.out.below hb
  have GLRw12v1 : Hid (g_w12 < w13.heap.size) := Nat.lt_of_lt_of_le GLRw12v0.out hb.size
  have HB_w13 : Hid (Below w.heap.size w w13) := HB_w12.out.trans (hb.mono HB_w12.out.size)
  have Hhv0 : Hid (Ints w13 a_w13 g_w13 xs) := hi
  clear hb hi hlo hown Sv10 Gv8 Rw12v0 GLRw12v0 HB_w12
  clear Rw12v1 GLRw12v1
  go_wp2_with fail
  refine (eqInt64S_same w13 a_w13 a_w2 g_w13 g_w2 c_w13 c_w2 xs HXL.out Hhv0.out Sv11.out).mono ?_
  rintro e w14 ⟨rfl, hb⟩
  have Sv12 : Hid (Ints w14 a_w2 g_w2 xs) := Sv11.out.below hb
  have Gv10 : Hid (Ints w14 a_w4 g_w4 (marks 1 xs.length)) := Gv9.out.below hb
  have Hhv1 : Hid (Ints w14 a_w13 g_w13 xs) := Hhv0.out.below hb
  have HB_w14 : Hid (Below w.heap.size w w14) := HB_w13.out.trans (hb.mono HB_w13.out.size)
  clear hb Sv11 Gv9 Hhv0 HB_w13
  go_wp2_with fail
  refine (heldInt64S_any w14 a_w4 g_w4 xs.length c_w4 1 Gv10.out HXL.out (by omega)).mono ?_
  rintro e w15 ⟨rfl, hb⟩
  have Sv13 : Hid (Ints w15 a_w2 g_w2 xs) := Sv12.out.below hb
  have Gv11 : Hid (Ints w15 a_w4 g_w4 (marks 1 xs.length)) := Gv10.out.below hb
  have Hhv2 : Hid (Ints w15 a_w13 g_w13 xs) := Hhv1.out.below hb
  have HB_w15 : Hid (Below w.heap.size w w15) := HB_w14.out.trans (hb.mono HB_w14.out.size)
  clear hb Sv12 Gv10 Hhv1 HB_w14
  go_wp2
  go_ret
  exact ⟨rfl, HB_w15.out⟩

set_option maxRecDepth 100000 in
theorem lifted (os : Os) (started : os.Started) (H : Type) (enc : TypeId × Value → H) :
    ReturnsInHanded {} Try.checked os 3 .any (Rows.fnExactDenyOfSpec.pre6 enc Try.prog Try.f3 Rows.fnExactDenyOfRow.domain false) (Rows.fnExactDenyOfSpec.post enc Try.prog Try.f3 false true false false) := by
  refine returnsInHanded_of_change (C := Try.checked) own started (by kernel_rfl) Try.func3
    (ChangeSpec.witness6 (enc := enc) (C := Try.checked) false ⟨#[], #[.slice none 0 0], []⟩ 8 (by kernel_rfl) (by kernel_rfl) (by kernel_rfl) (by kernel_rfl)) ?_
  intro W base args ds gs before hval0 hW hcnd _
  have hval : ∀ (j : Nat) t v, Try.f3.params[j]? = some t → args[j]? = some v → Value.okWide Try.prog W .any base t v := hval0
  have hW' := hW
  obtain ⟨p, q, hA0, hV, rfl, hfz, hnd⟩ := hW
  have hA : DataW.TrodAll enc Try.prog W 0 (fun _ => true) true Try.f3.params.toList args.toList ds p := hA0
  rw [Try.params3] at hA hval
  obtain ⟨v0, vs_0, d0, ds0, p0, q0, hargs, rfl, rfl, h0, r0⟩ := trodAll_cons hA
  obtain ⟨rfl, rfl, rfl⟩ := trodAll_nil r0
  obtain rfl : args = #[v0] := by cases args; simp_all
  obtain ⟨rfl, rfl⟩ := trodVars_none hV
  have k_0 := h0
  have lt_0 : ∀ x ∈ p0, x.block < W.heap.size := by obtain ⟨m, hm⟩ := k_0; exact DataW.trod_lt m _ _ _ hm
  obtain ⟨b0, vc0, n0, vs0, rfl, hx0, hk0, hn0⟩ := answers_of (hval 0 22 v0 rfl rfl) h0
  clear hA0 hval0
  refine (walk b0 vc0 n0 vs0 W hx0 hk0 hn0).mono fun e W' ⟨he, bel⟩ => ?_
  subst he
  exact ⟨_, rfl, _, _, _, [], _, [], hW', trodAll_mk1 (shut_bool Try.underlying4 _), (trodAll_cons_mk (Below.trod laidOut (by kernel_rfl) (of_decide_eq_true (by kernel_rfl)) k_0 bel lt_0) trodAll_mk0), rfl, bel.frame _, fun h => by cases h⟩

theorem over : Rows.fnExactDenyOfRow.holds Try.pinned (OpenSpec.ofChange Rows.fnExactDenyOfSpec) :=
  OpenClaim.holds_of_wide 3 Try.f3 rfl rfl rfl rfl rfl rfl rfl ⟨rfl, rfl, rfl, rfl, rfl⟩ rfl rfl rfl rfl rfl (by kernel_rfl) Try.func3 (by kernel_rfl)
    (of_decide_eq_true (by kernel_rfl)) (by unfold Func.isWrapper; first | (rw [if_pos (by decide +kernel)]; kernel_rfl) | (rw [if_neg (by decide +kernel)]; exact ⟨rfl, rfl⟩))
    (fun os started H enc _ => lifted os started H enc)

theorem proved : Rows.FnExactDenyOfSaid := over
#print axioms proved
end Go.Proofs.Ytffejdggpoaniaa.fnExactDenyOf
