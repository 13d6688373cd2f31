/-
  FnExactYoungWords: for every text and every slice of whole numbers the law that holds the program's YoungWords against the specification's YoungWords returns true, and the arguments read as before; no condition.
-/
import Derived.Test.YtmacnbkkndaeeaaYwF
import Derived.Test.YtmacnbkkndaeeaaIntsW
import Derived.ProofKit
import Derived.OpenShut
import Derived.ShutString
import Derived.ChangeOld
import Derived.Below
import Derived.Lib.SmallJoins
namespace Go.Proofs.Ytmacnbkkndaeeaa.fnExactYoungWords
open Go.ChangeShapes Go.WideShapes Go.ChangeAt Go.RowKit
open ints iw yw

theorem own : ownKnob Try.prog.godebug = none := by kernel_rfl
theorem laidOut : laidOutB Try.prog = true := by kernel_rfl


set_option linter.unusedVariables false in
set_option maxHeartbeats 4000000 in
set_option maxRecDepth 20000 in
theorem walk (s0 : ByteArray) (b1 : Option Addr) (vc1 : Nat) (vs1 : List Int) (w : World) (hs0 : s0.size ≤ maxLen) (hk1 : Nums w b1 vs1) (hn1 : vs1.length ≤ maxLen) (hw1 : ∀ x ∈ vs1, (Lit.int .i64 x).wf = true) :
    Calls Try.prog 5 #[.string s0, .slice b1 vs1.length vc1] w fun e w' => e = .returned (.bool true) ∧ Below w.heap.size w w' := by
  have HK1 : Hid (Nums w b1 vs1) := hk1
  unfold maxLen at hn1 hs0
  by_cases hbig0 : (1048576 : Int) < (s0.size : Int)
  · go_enter Try.func5, Try.ntmps5
    go_wp2
    go_ret
    exact ⟨rfl, Below.refl _ _⟩
  by_cases hbig1 : (1048576 : Int) < (vs1.length : Int)
  · go_enter Try.func5, Try.ntmps5
    go_wp2
    go_ret
    exact ⟨rfl, Below.refl _ _⟩
  have hN1 : vs1.length ≤ 1048576 := by omega
  have HN1 : Hid (vs1.length ≤ 1048576) := hN1
  have hT0 : s0.size ≤ 1048576 := by omega
  have HS : Hid (∀ (w : World) (a1 : Option Addr) (k1 : Nat), Nums w a1 vs1 → _) := fun w a1 k1 q1 => (spec_young w s0 a1 k1 vs1 hT0 hN1 q1).mono fun _ _ h => h.1
  have HI : Hid (∀ (w : World) (a1 : Option Addr) (k1 : Nat), Nums w a1 vs1 → _) := fun w a1 k1 q1 => (impl_young w s0 a1 k1 vs1 hT0 hN1 q1).mono fun _ _ h => h.1
  have hbnd := ywL_len s0 vs1 hN1
  unfold YwAns at HS HI
  have hxl : (ywL s0 vs1).length ≤ 1048576 := hbnd
  generalize ywL s0 vs1 = xs at HS HI hxl
  generalize ywOk s0 vs1 = r1 at HS HI
  have hqq1 : (r1 == r1) = true := by simp
  have hqn1 : (r1 != r1) = false := by simp
  have HXL : Hid (xs.length ≤ 1048576) := hxl
  have hq0 : (((1 + xs.length : Nat) : Int) != ((1 + xs.length : Nat) : Int)) = false := by simp
  have hq1 : ¬ ((1 + xs.length : Nat) : Int) < 0 := by omega
  clear hxl hbnd
  clear hk1 hN1 hn1 hw1 hs0 hT0 
  go_enter Try.func5, Try.ntmps5
  go_wp2_with fail
  refine (toInt64S_any w b1 vc1 vs1 HN1.out (HK1.out)).mono ?_
  rintro e w1 ⟨g_w1, rfl, hlo, hhi, hi, hb⟩
  have LW_Rw1 : Hid (w.heap.size ≤ g_w1) := by have h1 : w.heap.size ≤ w.heap.size := Nat.le_refl _; show w.heap.size ≤ g_w1; omega
  have HB_w1 : Hid (Below w.heap.size w w1) := hb
  have Rw1v0 : Hid (Ints w1 (some ⟨g_w1, 0, none⟩) g_w1 vs1) := hi
  have GLRw1v0 : Hid (g_w1 < w1.heap.size) := hhi
  clear hb hi hlo hhi 
  go_wp2_with fail
  refine (HS.out w1 _ _ Rw1v0.out.nums).mono ?_
  rintro e w2 ⟨v, rfl, hown, hb⟩
  obtain ⟨a_w2, g_w2, c_w2, rfl, hlo, hi⟩ := ints_of_row hown
  have LW_S : Hid (w.heap.size ≤ g_w2) := by have h1 : w.heap.size ≤ w1.heap.size := HB_w1.out.size; show w.heap.size ≤ g_w2; omega
  have NE_Rw1_S : Hid (0 < vs1.length → g_w1 ≠ g_w2) := fun h => by have h1 := Rw1v0.out.lt h; omega
  have NQ_S_Rw1 : Hid (g_w2 ≠ g_w1) := by have h1 := GLRw1v0.out; show g_w2 ≠ g_w1; omega
  have Rw1v1 : Hid (Ints w2 (some ⟨g_w1, 0, none⟩) g_w1 vs1) := Rw1v0.out.below hb
  have GLRw1v1 : Hid (g_w1 < w2.heap.size) := Nat.lt_of_lt_of_le GLRw1v0.out hb.size
  have HB_w2 : Hid (Below w.heap.size w w2) := HB_w1.out.trans (hb.mono HB_w1.out.size)
  have Sv0 : Hid (Ints w2 a_w2 g_w2 xs) := hi
  clear hb hi hlo hown Rw1v0 GLRw1v0 HB_w1
  clear Rw1v1 GLRw1v1
  go_wp2_with fail
  refine (toInt64S_any w2 b1 vc1 vs1 HN1.out (HK1.out.below HB_w2.out)).mono ?_
  rintro e w3 ⟨g_w3, rfl, hlo, hhi, hi, hb⟩
  have LW_X1 : Hid (w.heap.size ≤ g_w3) := by have h1 : w.heap.size ≤ w2.heap.size := HB_w2.out.size; show w.heap.size ≤ g_w3; omega
  have NE_S_X1 : Hid (0 < xs.length → g_w2 ≠ g_w3) := fun h => by have h1 := Sv0.out.lt h; omega
  have Sv1 : Hid (Ints w3 a_w2 g_w2 xs) := Sv0.out.below hb
  have HB_w3 : Hid (Below w.heap.size w w3) := HB_w2.out.trans (hb.mono HB_w2.out.size)
  have X1v0 : Hid (Ints w3 (some ⟨g_w3, 0, none⟩) g_w3 vs1) := hi
  have GLX1v0 : Hid (g_w3 < w3.heap.size) := hhi
  clear hb hi hlo hhi Sv0 HB_w2
  go_wp2_with fail
  refine (HI.out w3 _ _ X1v0.out.nums).mono ?_
  rintro e w4 ⟨v, rfl, hown, hb⟩
  obtain ⟨a_w4, g_w4, c_w4, rfl, hlo, hi⟩ := ints_of_row hown
  have LW_G : Hid (w.heap.size ≤ g_w4) := by have h1 : w.heap.size ≤ w3.heap.size := HB_w3.out.size; show w.heap.size ≤ g_w4; omega
  have NE_S_G : Hid (0 < xs.length → g_w2 ≠ g_w4) := fun h => by have h1 := Sv1.out.lt h; omega
  have NE_X1_G : Hid (0 < vs1.length → g_w3 ≠ g_w4) := fun h => by have h1 := X1v0.out.lt h; omega
  have NQ_G_X1 : Hid (g_w4 ≠ g_w3) := by have h1 := GLX1v0.out; show g_w4 ≠ g_w3; omega
  have Sv2 : Hid (Ints w4 a_w2 g_w2 xs) := Sv1.out.below hb
  have X1v1 : Hid (Ints w4 (some ⟨g_w3, 0, none⟩) g_w3 vs1) := X1v0.out.below hb
  have GLX1v1 : Hid (g_w3 < w4.heap.size) := Nat.lt_of_lt_of_le GLX1v0.out hb.size
  have HB_w4 : Hid (Below w.heap.size w w4) := HB_w3.out.trans (hb.mono HB_w3.out.size)
  have Gv0 : Hid (Ints w4 a_w4 g_w4 xs) := hi
  clear hb hi hlo hown Sv1 X1v0 GLX1v0 HB_w3
  go_wp2_with fail
  refine (eqInt64S_same w4 a_w4 a_w2 g_w4 g_w2 c_w4 c_w2 xs HXL.out Gv0.out Sv2.out).mono ?_
  rintro e w5 ⟨rfl, hb⟩
  have Sv3 : Hid (Ints w5 a_w2 g_w2 xs) := Sv2.out.below hb
  have X1v2 : Hid (Ints w5 (some ⟨g_w3, 0, none⟩) g_w3 vs1) := X1v1.out.below hb
  have GLX1v2 : Hid (g_w3 < w5.heap.size) := Nat.lt_of_lt_of_le GLX1v1.out hb.size
  have Gv1 : Hid (Ints w5 a_w4 g_w4 xs) := Gv0.out.below hb
  have HB_w5 : Hid (Below w.heap.size w w5) := HB_w4.out.trans (hb.mono HB_w4.out.size)
  clear hb Sv2 X1v1 GLX1v1 Gv0 HB_w4
  go_wp2_with fail
  refine (toInt64S_any w5 b1 vc1 vs1 HN1.out (HK1.out.below HB_w5.out)).mono ?_
  rintro e w6 ⟨g_w6, rfl, hlo, hhi, hi, hb⟩
  have LW_Rw6 : Hid (w.heap.size ≤ g_w6) := by have h1 : w.heap.size ≤ w5.heap.size := HB_w5.out.size; show w.heap.size ≤ g_w6; omega
  have NE_S_Rw6 : Hid (0 < xs.length → g_w2 ≠ g_w6) := fun h => by have h1 := Sv3.out.lt h; omega
  have NE_X1_Rw6 : Hid (0 < vs1.length → g_w3 ≠ g_w6) := fun h => by have h1 := X1v2.out.lt h; omega
  have NQ_Rw6_X1 : Hid (g_w6 ≠ g_w3) := by have h1 := GLX1v2.out; show g_w6 ≠ g_w3; omega
  have NE_G_Rw6 : Hid (0 < xs.length → g_w4 ≠ g_w6) := fun h => by have h1 := Gv1.out.lt h; omega
  have Sv4 : Hid (Ints w6 a_w2 g_w2 xs) := Sv3.out.below hb
  have X1v3 : Hid (Ints w6 (some ⟨g_w3, 0, none⟩) g_w3 vs1) := X1v2.out.below hb
  have GLX1v3 : Hid (g_w3 < w6.heap.size) := Nat.lt_of_lt_of_le GLX1v2.out hb.size
  have Gv2 : Hid (Ints w6 a_w4 g_w4 xs) := Gv1.out.below hb
  have HB_w6 : Hid (Below w.heap.size w w6) := HB_w5.out.trans (hb.mono HB_w5.out.size)
  have Rw6v0 : Hid (Ints w6 (some ⟨g_w6, 0, none⟩) g_w6 vs1) := hi
  have GLRw6v0 : Hid (g_w6 < w6.heap.size) := hhi
  clear hb hi hlo hhi Sv3 X1v2 GLX1v2 Gv1 HB_w5
  go_wp2_with fail
  refine (eqInt64S_same w6 (some ⟨g_w3, 0, none⟩) (some ⟨g_w6, 0, none⟩) g_w3 g_w6 vs1.length vs1.length vs1 HN1.out X1v3.out Rw6v0.out).mono ?_
  rintro e w7 ⟨rfl, hb⟩
  have Sv5 : Hid (Ints w7 a_w2 g_w2 xs) := Sv4.out.below hb
  have X1v4 : Hid (Ints w7 (some ⟨g_w3, 0, none⟩) g_w3 vs1) := X1v3.out.below hb
  have GLX1v4 : Hid (g_w3 < w7.heap.size) := Nat.lt_of_lt_of_le GLX1v3.out hb.size
  have Gv3 : Hid (Ints w7 a_w4 g_w4 xs) := Gv2.out.below hb
  have Rw6v1 : Hid (Ints w7 (some ⟨g_w6, 0, none⟩) g_w6 vs1) := Rw6v0.out.below hb
  have GLRw6v1 : Hid (g_w6 < w7.heap.size) := Nat.lt_of_lt_of_le GLRw6v0.out hb.size
  have HB_w7 : Hid (Below w.heap.size w w7) := HB_w6.out.trans (hb.mono HB_w6.out.size)
  clear hb Sv4 X1v3 GLX1v3 Gv2 Rw6v0 GLRw6v0 HB_w6
  clear Rw6v1 GLRw6v1
  go_wp2_with fail
  refine (markInt64S_any w7 (some ⟨g_w3, 0, none⟩) g_w3 vs1.length vs1.length vs1 1 rfl X1v4.out HN1.out (by omega)).mono ?_
  rintro e w8 ⟨rfl, hg, hm⟩
  have Sv6 : Hid (Ints w8 a_w2 g_w2 xs) := Sv5.out.grown2 hg NE_S_X1.out
  have Gv4 : Hid (Ints w8 a_w4 g_w4 xs) := Gv3.out.grown2 hg (fun _ => NQ_G_X1.out)
  have HB_w8 : Hid (Below w.heap.size w w8) := HB_w7.out.trans (below_of_grown hg HB_w7.out.size LW_X1.out)
  clear hg hm Sv5 X1v4 GLX1v4 Gv3 HB_w7
  obtain ⟨kk0, hkk0⟩ : ∃ k : Nat, k = 1 + vs1.length := ⟨_, rfl⟩
  have hkb0 : kk0 ≤ 1048577 := by have := HN1.out; omega
  rw [← hkk0]
  clear hkk0
  have hk0 : ¬ (kk0 : Int) < 0 := by omega
  go_wp2_with fail
  refine (eqInt64S_same w8 a_w4 a_w2 g_w4 g_w2 c_w4 c_w2 xs HXL.out Gv4.out Sv6.out).mono ?_
  rintro e w9 ⟨rfl, hb⟩
  have Sv7 : Hid (Ints w9 a_w2 g_w2 xs) := Sv6.out.below hb
  have Gv5 : Hid (Ints w9 a_w4 g_w4 xs) := Gv4.out.below hb
  have HB_w9 : Hid (Below w.heap.size w w9) := HB_w8.out.trans (hb.mono HB_w8.out.size)
  clear hb Sv6 Gv4 HB_w8
  go_wp2_with fail
  refine (markInt64S_any w9 a_w4 g_w4 xs.length c_w4 xs 1 rfl Gv5.out HXL.out (by omega)).mono ?_
  rintro e w10 ⟨rfl, hg, hm⟩
  have Sv8 : Hid (Ints w10 a_w2 g_w2 xs) := Sv7.out.grown2 hg NE_S_G.out
  have HB_w10 : Hid (Below w.heap.size w w10) := HB_w9.out.trans (below_of_grown hg HB_w9.out.size LW_G.out)
  have Gv6 : Hid (Ints w10 a_w4 g_w4 (marks 1 xs.length)) := hm
  clear hg hm Sv7 Gv5 HB_w9
  go_wp2_with fail
  refine (heldInt64S_any w10 a_w4 g_w4 xs.length c_w4 1 Gv6.out HXL.out (by omega)).mono ?_
  rintro e w11 ⟨rfl, hb⟩
  have Sv9 : Hid (Ints w11 a_w2 g_w2 xs) := Sv8.out.below hb
  have Gv7 : Hid (Ints w11 a_w4 g_w4 (marks 1 xs.length)) := Gv6.out.below hb
  have HB_w11 : Hid (Below w.heap.size w w11) := HB_w10.out.trans (hb.mono HB_w10.out.size)
  clear hb Sv8 Gv6 HB_w10
  go_wp2_with fail
  refine (toInt64S_any w11 b1 vc1 vs1 HN1.out (HK1.out.below HB_w11.out)).mono ?_
  rintro e w12 ⟨g_w12, rfl, hlo, hhi, hi, hb⟩
  have LW_Rw12 : Hid (w.heap.size ≤ g_w12) := by have h1 : w.heap.size ≤ w11.heap.size := HB_w11.out.size; show w.heap.size ≤ g_w12; omega
  have NE_S_Rw12 : Hid (0 < xs.length → g_w2 ≠ g_w12) := fun h => by have h1 := Sv9.out.lt h; omega
  have NE_G_Rw12 : Hid (0 < (marks 1 xs.length).length → g_w4 ≠ g_w12) := fun h => by have h1 := Gv7.out.lt h; omega
  have Sv10 : Hid (Ints w12 a_w2 g_w2 xs) := Sv9.out.below hb
  have Gv8 : Hid (Ints w12 a_w4 g_w4 (marks 1 xs.length)) := Gv7.out.below hb
  have HB_w12 : Hid (Below w.heap.size w w12) := HB_w11.out.trans (hb.mono HB_w11.out.size)
  have Rw12v0 : Hid (Ints w12 (some ⟨g_w12, 0, none⟩) g_w12 vs1) := hi
  have GLRw12v0 : Hid (g_w12 < w12.heap.size) := hhi
  clear hb hi hlo hhi Sv9 Gv7 HB_w11
  go_wp2_with fail
  refine (HI.out w12 _ _ Rw12v0.out.nums).mono ?_
  rintro e w13 ⟨v, rfl, hown, hb⟩
  obtain ⟨a_w13, g_w13, c_w13, rfl, hlo, hi⟩ := ints_of_row hown
  have LW_Hh : Hid (w.heap.size ≤ g_w13) := by have h1 : w.heap.size ≤ w12.heap.size := HB_w12.out.size; show w.heap.size ≤ g_w13; omega
  have NE_S_Hh : Hid (0 < xs.length → g_w2 ≠ g_w13) := fun h => by have h1 := Sv10.out.lt h; omega
  have NE_G_Hh : Hid (0 < (marks 1 xs.length).length → g_w4 ≠ g_w13) := fun h => by have h1 := Gv8.out.lt h; omega
  have NE_Rw12_Hh : Hid (0 < vs1.length → g_w12 ≠ g_w13) := fun h => by have h1 := Rw12v0.out.lt h; omega
  have NQ_Hh_Rw12 : Hid (g_w13 ≠ g_w12) := by have h1 := GLRw12v0.out; show g_w13 ≠ g_w12; omega
  have Sv11 : Hid (Ints w13 a_w2 g_w2 xs) := Sv10.out.below hb
  have Gv9 : Hid (Ints w13 a_w4 g_w4 (marks 1 xs.length)) := Gv8.out.below hb
  have Rw12v1 : Hid (Ints w13 (some ⟨g_w12, 0, none⟩) g_w12 vs1) := Rw12v0.out.below hb
  have GLRw12v1 : Hid (g_w12 < w13.heap.size) := Nat.lt_of_lt_of_le GLRw12v0.out hb.size
  have HB_w13 : Hid (Below w.heap.size w w13) := HB_w12.out.trans (hb.mono HB_w12.out.size)
  have Hhv0 : Hid (Ints w13 a_w13 g_w13 xs) := hi
  clear hb hi hlo hown Sv10 Gv8 Rw12v0 GLRw12v0 HB_w12
  clear Rw12v1 GLRw12v1
  go_wp2_with fail
  refine (eqInt64S_same w13 a_w13 a_w2 g_w13 g_w2 c_w13 c_w2 xs HXL.out Hhv0.out Sv11.out).mono ?_
  rintro e w14 ⟨rfl, hb⟩
  have Sv12 : Hid (Ints w14 a_w2 g_w2 xs) := Sv11.out.below hb
  have Gv10 : Hid (Ints w14 a_w4 g_w4 (marks 1 xs.length)) := Gv9.out.below hb
  have Hhv1 : Hid (Ints w14 a_w13 g_w13 xs) := Hhv0.out.below hb
  have HB_w14 : Hid (Below w.heap.size w w14) := HB_w13.out.trans (hb.mono HB_w13.out.size)
  clear hb Sv11 Gv9 Hhv0 HB_w13
  go_wp2_with fail
  refine (heldInt64S_any w14 a_w4 g_w4 xs.length c_w4 1 Gv10.out HXL.out (by omega)).mono ?_
  rintro e w15 ⟨rfl, hb⟩
  have Sv13 : Hid (Ints w15 a_w2 g_w2 xs) := Sv12.out.below hb
  have Gv11 : Hid (Ints w15 a_w4 g_w4 (marks 1 xs.length)) := Gv10.out.below hb
  have Hhv2 : Hid (Ints w15 a_w13 g_w13 xs) := Hhv1.out.below hb
  have HB_w15 : Hid (Below w.heap.size w w15) := HB_w14.out.trans (hb.mono HB_w14.out.size)
  clear hb Sv12 Gv10 Hhv1 HB_w14
  go_wp2
  go_ret
  exact ⟨rfl, HB_w15.out⟩

set_option maxRecDepth 100000 in
theorem lifted (os : Os) (started : os.Started) (H : Type) (enc : TypeId × Value → H) :
    ReturnsInHanded {} Try.checked os 5 .any (Rows.fnExactYoungWordsSpec.pre6 enc Try.prog Try.f5 Rows.fnExactYoungWordsRow.domain false) (Rows.fnExactYoungWordsSpec.post enc Try.prog Try.f5 false true false false) := by
  refine returnsInHanded_of_change (C := Try.checked) own started (by kernel_rfl) Try.func5
    (ChangeSpec.witness6 (enc := enc) (C := Try.checked) false ⟨#[], #[.string ByteArray.empty, .slice none 0 0], []⟩ 8 (by kernel_rfl) (by kernel_rfl) (by kernel_rfl) (by kernel_rfl)) ?_
  intro W base args ds gs before hval0 hW hcnd _
  have hval : ∀ (j : Nat) t v, Try.f5.params[j]? = some t → args[j]? = some v → Value.okWide Try.prog W .any base t v := hval0
  have hW' := hW
  obtain ⟨p, q, hA0, hV, rfl, hfz, hnd⟩ := hW
  have hA : DataW.TrodAll enc Try.prog W 0 (fun _ => true) true Try.f5.params.toList args.toList ds p := hA0
  rw [Try.params5] at hA hval
  obtain ⟨v0, vs_0, d0, ds0, p0, q0, hargs, rfl, rfl, h0, r0⟩ := trodAll_cons hA
  obtain ⟨v1, vs_1, d1, ds1, p1, q1, rfl, rfl, rfl, h1, r1⟩ := trodAll_cons r0
  obtain ⟨rfl, rfl, rfl⟩ := trodAll_nil r1
  obtain rfl : args = #[v0, v1] := by cases args; simp_all
  obtain ⟨rfl, rfl⟩ := trodVars_none hV
  obtain ⟨s0, rfl, rfl, rfl, hs0⟩ := Go.ChangeMaps.open_string Try.underlying9 (hval 0 9 v0 rfl rfl) h0
  have k_1 := h1
  have lt_1 : ∀ x ∈ p1, x.block < W.heap.size := by obtain ⟨m, hm⟩ := k_1; exact DataW.trod_lt m _ _ _ hm
  obtain ⟨b1, vc1, vs1, rfl, hn1, hk1, hw1⟩ := numsw_of (hval 1 22 v1 rfl rfl) h1
  clear hA0 hval0
  refine (walk s0 b1 vc1 vs1 W hs0 hk1 hn1 hw1).mono fun e W' ⟨he, bel⟩ => ?_
  subst he
  exact ⟨_, rfl, _, _, _, [], _, [], hW', trodAll_mk1 (shut_bool Try.underlying4 _), (trodAll_cons_mk (Go.ChangeMaps.shut_string Try.underlying9 hs0) (trodAll_cons_mk (Below.trod laidOut (by kernel_rfl) (of_decide_eq_true (by kernel_rfl)) k_1 bel lt_1) trodAll_mk0)), rfl, bel.frame _, fun h => by cases h⟩

theorem over : Rows.fnExactYoungWordsRow.holds Try.pinned (OpenSpec.ofChange Rows.fnExactYoungWordsSpec) :=
  OpenClaim.holds_of_wide 5 Try.f5 rfl rfl rfl rfl rfl rfl rfl ⟨rfl, rfl, rfl, rfl, rfl⟩ rfl rfl rfl rfl rfl (by kernel_rfl) Try.func5 (by kernel_rfl)
    (of_decide_eq_true (by kernel_rfl)) (by unfold Func.isWrapper; first | (rw [if_pos (by decide +kernel)]; kernel_rfl) | (rw [if_neg (by decide +kernel)]; exact ⟨rfl, rfl⟩))
    (fun os started H enc _ => lifted os started H enc)

theorem proved : Rows.FnExactYoungWordsSaid := over
#print axioms proved
end Go.Proofs.Ytmacnbkkndaeeaa.fnExactYoungWords
