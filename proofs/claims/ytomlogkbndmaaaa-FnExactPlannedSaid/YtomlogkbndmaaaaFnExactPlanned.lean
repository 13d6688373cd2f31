/-
  FnExactPlanned: for every config, every text and every slice of whole numbers the law that holds the program's Planned against the specification's Planned returns true, and the arguments read as before; no condition.
-/
import Derived.Test.YtomlogkbndmaaaaPlan2
import Derived.Test.YtomlogkbndmaaaaPlan3
import Derived.Test.YtomlogkbndmaaaaCVar
import Derived.Test.YtomlogkbndmaaaaConfOpen
import Derived.Test.YtomlogkbndmaaaaObjVar
import Derived.Deep.RegionHeld3
import Derived.ProofKit
import Derived.OpenShut
import Derived.ShutString
import Derived.ChangeOld
import Derived.Below
import Derived.Lib.SmallJoins
namespace Go.Proofs.Ytomlogkbndmaaaa.fnExactPlanned
open Go.ChangeShapes Go.WideShapes Go.ChangeAt Go.RowKit
open kinds ints txt cv img obj pl

theorem own : ownKnob Try.prog.godebug = none := by kernel_rfl
theorem laidOut : laidOutB Try.prog = true := by kernel_rfl


set_option linter.unusedVariables false in
set_option maxHeartbeats 4000000 in
set_option maxRecDepth 20000 in
theorem walk (n01 n02 n03 : Int) (a0 : Option Addr) (c0 : Nat) (xs0 : List ByteArray) (s1 : ByteArray) (b2 : Option Addr) (vc2 : Nat) (vs2 : List Int) (w : World) (hn01 : (Lit.int .i64 n01).wf = true) (hn02 : (Lit.int .i64 n02).wf = true) (hn03 : (Lit.int .i64 n03).wf = true) (hl0 : Strs w a0 xs0) (hm0 : xs0.length ≤ maxLen) (hz0 : ∀ i (hi : i < xs0.length), xs0[i].size ≤ maxLen) (hs1 : s1.size ≤ maxLen) (hk2 : Nums w b2 vs2) (hn2 : vs2.length ≤ maxLen) (hw2 : ∀ x ∈ vs2, (Lit.int .i64 x).wf = true) :
    Calls Try.prog 6 #[.agg #[.int .i64 n01, .int .i64 n02, .int .i64 n03, .slice a0 xs0.length c0], .string s1, .slice b2 vs2.length vc2] w fun e w' => e = .returned (.bool true) ∧ Below w.heap.size w w' := by
  unfold maxLen at hn2 hs1
  obtain ⟨W, hW⟩ : ∃ W, W = w.alloc (.cells #[.int .i64 n01, .int .i64 n02, .int .i64 n03, .slice a0 xs0.length c0] 37) := ⟨_, rfl⟩
  have HB0 : Hid (Below w.heap.size w W) := by
    have h1 : Below w.heap.size w W := by rw [hW]; exact (Below.refl _ _).alloc (Nat.le_refl _) _
    exact h1
  have hsz : w.heap.size < W.heap.size := by rw [hW]; simp
  have HK : Hid (∀ w', Below W.heap.size W w' → w'.cell? ⟨w.heap.size, 0, none⟩ = some (.int .i64 n01) ∧ w'.cell? ⟨w.heap.size, 1, none⟩ = some (.int .i64 n02) ∧ w'.cell? ⟨w.heap.size, 2, none⟩ = some (.int .i64 n03) ∧ w'.cell? ⟨w.heap.size, 3, none⟩ = some (.slice a0 xs0.length c0)) := fun w' h =>
    ⟨by rw [h.cell (p := ⟨w.heap.size, 0, none⟩) hsz, hW, World.cell?_alloc_new]; rfl, by rw [h.cell (p := ⟨w.heap.size, 1, none⟩) hsz, hW, World.cell?_alloc_new]; rfl, by rw [h.cell (p := ⟨w.heap.size, 2, none⟩) hsz, hW, World.cell?_alloc_new]; rfl, by rw [h.cell (p := ⟨w.heap.size, 3, none⟩) hsz, hW, World.cell?_alloc_new]; rfl⟩
  have HW : Hid (W = w.alloc (.cells #[.int .i64 n01, .int .i64 n02, .int .i64 n03, .slice a0 xs0.length c0] 37)) := hW
  have HLW : Hid (∀ w', Below W.heap.size W w' → Strs w' a0 xs0) := fun w' h => (hl0.below HB0.out).below h
  have HEnd : Hid (∀ w', Below W.heap.size W w' → Below w.heap.size w w') := fun w' h => HB0.out.trans (h.mono HB0.out.size)
  have HSZ : Hid (∀ w, Strs w a0 xs0 → Calls _ _ _ w _) := fun w h => szConfig_any w n01 n02 n03 a0 c0 xs0 hm0 h hz0
  have HK2 : Hid (∀ w', Below W.heap.size W w' → Nums w' b2 vs2) := fun w' h => (hk2.below HB0.out).below h
  by_cases hbig1 : (1048576 : Int) < (s1.size : Int)
  · go_enter Try.func6, Try.ntmps6
    go_wp2
    go_ret
    exact ⟨rfl, by rw [← HW.out]; exact HB0.out⟩
  by_cases hbig2 : (1048576 : Int) < (vs2.length : Int)
  · go_enter Try.func6, Try.ntmps6
    go_wp2
    go_ret
    exact ⟨rfl, by rw [← HW.out]; exact HB0.out⟩
  have hN2 : vs2.length ≤ 1048576 := by omega
  have HN2 : Hid (vs2.length ≤ 1048576) := hN2
  have hT1 : s1.size ≤ 1048576 := by omega
  clear hk2 hn2 hs1 hW hl0 hz0 hm0 hn01 hn02 hn03 
  go_enter Try.func6, Try.ntmps6
  go_wp2_with fail
  rw [← HW.out]
  refine (HSZ.out W (HLW.out W (Below.refl _ _))).mono ?_
  rintro e w1 ⟨r, rfl, hr0, hr2, hw⟩
  have HB_w1 : Hid (Below W.heap.size W w1) := hw
  have HR1 : Hid (0 ≤ r → xs0.length ≤ 1048576 ∧ ∀ i (hi : i < xs0.length), xs0[i].size ≤ 1048576) := hr2
  clear hr2 hw
  by_cases hneg : r < 0
  · go_wp2
    go_ret
    exact ⟨rfl, HEnd.out _ HB_w1.out⟩
  obtain ⟨hnC, hzC⟩ := HR1.out (by omega)
  have HNC : Hid (xs0.length ≤ 1048576) := hnC
  have HS : Hid (∀ (w : World) (aC : Option Addr) (kC : Nat) (a2 : Option Addr) (k2 : Nat), Strs w aC xs0 → Nums w a2 vs2 → _) := fun w aC kC a2 k2 qC q2 => (spec_plan w n01 n02 n03 aC kC xs0 s1 a2 k2 vs2 hnC qC hzC hN2 q2).mono fun _ _ h => h.1
  have HI : Hid (∀ (w : World) (aC : Option Addr) (kC : Nat) (a2 : Option Addr) (k2 : Nat), Strs w aC xs0 → Nums w a2 vs2 → _) := fun w aC kC a2 k2 qC q2 => (impl_plan w n01 n02 n03 aC kC xs0 s1 a2 k2 vs2 hnC qC hzC hN2 q2).mono fun _ _ h => h.1
  have hbnd := planV_len n01 n02 n03 xs0 s1 vs2 hN2
  unfold PlAns at HS HI
  have hxl : (planV n01 n02 n03 xs0 s1 vs2).length ≤ 1048576 := hbnd
  generalize planV n01 n02 n03 xs0 s1 vs2 = xs at HS HI hxl
  generalize planB n01 n02 n03 xs0 s1 vs2 = r1 at HS HI
  have hqq1 : (r1 == r1) = true := by simp
  have hqn1 : (r1 != r1) = false := by simp
  have HXL : Hid (xs.length ≤ 1048576) := hxl
  obtain ⟨km, hkm⟩ : ∃ km : Int, km = ((1 + xs.length : Nat) : Int) := ⟨_, rfl⟩
  have HKM : Hid (km = ((1 + xs.length : Nat) : Int)) := hkm
  have hq0 : (km != km) = false := by simp
  have hq1 : ¬ km < 0 := by omega
  clear hxl hbnd hkm
  clear hN2 hw2 hT1 hnC hzC HR1 hr0
  obtain ⟨m0, m1, m2, m3⟩ := HK.out w1 HB_w1.out
  go_wp2_with fail
  refine (toConfig_any w1 n01 n02 n03 a0 c0 xs0 HNC.out (HLW.out _ HB_w1.out)).mono ?_
  rintro e w2 ⟨g_w2, rfl, hlo, hhi, hst, hrw, hb⟩
  have LO_Rw2 : Hid (w1.heap.size ≤ g_w2) := hlo
  have HI_Rw2 : Hid (g_w2 < w2.heap.size) := hhi
  have LW_Rw2 : Hid (W.heap.size ≤ g_w2) := by have h1 := HB_w1.out.size; show W.heap.size ≤ g_w2; omega
  have SZ_w2 : Hid (w1.heap.size ≤ w2.heap.size) := hb.size
  have HB_w2 : Hid (Below W.heap.size W w2) := HB_w1.out.trans (hb.mono HB_w1.out.size)
  have Rw2v0 : Hid (Txts w2 (some ⟨g_w2, 0, none⟩) g_w2 xs0) := txts_of hst hrw
  clear hb hlo hhi hst hrw m0 m1 m2 m3 HB_w1
  go_wp2_with fail
  refine (toInt64S_any w2 b2 vc2 vs2 HN2.out (HK2.out _ HB_w2.out)).mono ?_
  rintro e w3 ⟨g_w3, rfl, hlo, hhi, hi, hb⟩
  have LO_Rw3 : Hid (w2.heap.size ≤ g_w3) := hlo
  have HI_Rw3 : Hid (g_w3 < w3.heap.size) := hhi
  have LW_Rw3 : Hid (W.heap.size ≤ g_w3) := by have h1 := HB_w2.out.size; show W.heap.size ≤ g_w3; omega
  have SZ_w3 : Hid (w2.heap.size ≤ w3.heap.size) := hb.size
  have Rw2v1 : Hid (Txts w3 (some ⟨g_w2, 0, none⟩) g_w2 xs0) := Rw2v0.out.below hb
  have HB_w3 : Hid (Below W.heap.size W w3) := HB_w2.out.trans (hb.mono HB_w2.out.size)
  have Rw3v0 : Hid (Ints w3 (some ⟨g_w3, 0, none⟩) g_w3 vs2) := hi
  clear hb hi hlo hhi Rw2v0 HB_w2
  go_wp2_with fail
  refine (HS.out w3 _ _ _ _ Rw2v1.out.strs Rw3v0.out.nums).mono ?_
  rintro e w4 ⟨v, rfl, hown, hb⟩
  obtain ⟨a_w4, g_w4, k_w4, rfl, hlo, hi⟩ := ints_of_row hown
  have LO_S : Hid (w3.heap.size ≤ g_w4) := hlo
  have HI_S : Hid (0 < xs.length → g_w4 < w4.heap.size) := fun h => hi.lt h
  have LW_S : Hid (W.heap.size ≤ g_w4) := by have h1 := HB_w3.out.size; show W.heap.size ≤ g_w4; omega
  have SZ_w4 : Hid (w3.heap.size ≤ w4.heap.size) := hb.size
  have Rw2v2 : Hid (Txts w4 (some ⟨g_w2, 0, none⟩) g_w2 xs0) := Rw2v1.out.below hb
  have Rw3v1 : Hid (Ints w4 (some ⟨g_w3, 0, none⟩) g_w3 vs2) := Rw3v0.out.below hb
  have HB_w4 : Hid (Below W.heap.size W w4) := HB_w3.out.trans (hb.mono HB_w3.out.size)
  have Sv0 : Hid (Ints w4 a_w4 g_w4 xs) := hi
  clear hb hi hlo hown  Rw2v1 Rw3v0 HB_w3
  clear Rw2v2
  clear Rw3v1
  obtain ⟨m0, m1, m2, m3⟩ := HK.out w4 HB_w4.out
  go_wp2_with fail
  refine (toConfig_any w4 n01 n02 n03 a0 c0 xs0 HNC.out (HLW.out _ HB_w4.out)).mono ?_
  rintro e w5 ⟨g_w5, rfl, hlo, hhi, hst, hrw, hb⟩
  have LO_X0 : Hid (w4.heap.size ≤ g_w5) := hlo
  have HI_X0 : Hid (g_w5 < w5.heap.size) := hhi
  have LW_X0 : Hid (W.heap.size ≤ g_w5) := by have h1 := HB_w4.out.size; show W.heap.size ≤ g_w5; omega
  have SZ_w5 : Hid (w4.heap.size ≤ w5.heap.size) := hb.size
  have Sv1 : Hid (Ints w5 a_w4 g_w4 xs) := Sv0.out.below hb
  have HB_w5 : Hid (Below W.heap.size W w5) := HB_w4.out.trans (hb.mono HB_w4.out.size)
  have X0v0 : Hid (Txts w5 (some ⟨g_w5, 0, none⟩) g_w5 xs0) := txts_of hst hrw
  clear hb hlo hhi hst hrw m0 m1 m2 m3 Sv0 HB_w4
  obtain ⟨Y6, hY6⟩ : ∃ Y, Y = w5.alloc (.cells #[.int .i64 n01, .int .i64 n02, .int .i64 n03, .slice (some ⟨g_w5, 0, none⟩) xs0.length xs0.length] 26) := ⟨_, rfl⟩
  have HY6 : Hid (Y6 = w5.alloc (.cells #[.int .i64 n01, .int .i64 n02, .int .i64 n03, .slice (some ⟨g_w5, 0, none⟩) xs0.length xs0.length] 26)) := hY6
  have hbY6 : Below w5.heap.size w5 Y6 := by rw [hY6]; exact (Below.refl _ _).alloc (Nat.le_refl _) _
  obtain ⟨BX0, hBX0⟩ : ∃ B, B = w5.heap.size := ⟨_, rfl⟩
  have HEX0 : Hid (BX0 = w5.heap.size) := hBX0
  have X0bx : Hid (CVar BX0 n01 n02 n03 (some ⟨g_w5, 0, none⟩) g_w5 xs0.length xs0.length xs0 Y6) := by rw [hY6, hBX0]; exact CVar.start w5 n01 n02 n03 _ g_w5 _ _ xs0 _ rfl X0v0.out
  have BL_X0 : Hid (BX0 < Y6.heap.size) := X0bx.out.lt
  have BW_X0 : Hid (W.heap.size ≤ BX0) := by have h1 := HB_w5.out.size; show W.heap.size ≤ BX0; omega
  have SZ_Y6 : Hid (w5.heap.size ≤ Y6.heap.size) := hbY6.size
  have Sv2 : Hid (Ints Y6 a_w4 g_w4 xs) := Sv1.out.below hbY6
  have HB_Y6 : Hid (Below W.heap.size W Y6) := HB_w5.out.trans (hbY6.mono HB_w5.out.size)
  have X0v1 : Hid (CVar BX0 n01 n02 n03 (some ⟨g_w5, 0, none⟩) g_w5 xs0.length xs0.length xs0 Y6) := X0bx.out
  clear hY6 hbY6 hBX0 X0bx X0v0 Sv1 HB_w5
  go_wp2_with fail
  rw [← HY6.out]
  try rw [← HEX0.out]
  refine (toInt64S_any Y6 b2 vc2 vs2 HN2.out (HK2.out _ HB_Y6.out)).mono ?_
  rintro e w7 ⟨g_w7, rfl, hlo, hhi, hi, hb⟩
  have LO_X2 : Hid (Y6.heap.size ≤ g_w7) := hlo
  have HI_X2 : Hid (g_w7 < w7.heap.size) := hhi
  have LW_X2 : Hid (W.heap.size ≤ g_w7) := by have h1 := HB_Y6.out.size; show W.heap.size ≤ g_w7; omega
  have SZ_w7 : Hid (Y6.heap.size ≤ w7.heap.size) := hb.size
  have Sv3 : Hid (Ints w7 a_w4 g_w4 xs) := Sv2.out.below hb
  have X0v2 : Hid (CVar BX0 n01 n02 n03 (some ⟨g_w5, 0, none⟩) g_w5 xs0.length xs0.length xs0 w7) := X0v1.out.below hb
  have HB_w7 : Hid (Below W.heap.size W w7) := HB_Y6.out.trans (hb.mono HB_Y6.out.size)
  have X2v0 : Hid (Ints w7 (some ⟨g_w7, 0, none⟩) g_w7 vs2) := hi
  clear hb hi hlo hhi Sv2 X0v1 HB_Y6
  have m0 := X0v2.out.c0
  have m1 := X0v2.out.c1
  have m2 := X0v2.out.c2
  have m3 := X0v2.out.c3
  go_wp2_with fail
  refine (HI.out w7 _ _ _ _ X0v2.out.tx.strs X2v0.out.nums).mono ?_
  rintro e w8 ⟨v, rfl, hown, hb⟩
  obtain ⟨a_w8, g_w8, k_w8, rfl, hlo, hi⟩ := ints_of_row hown
  have LO_G : Hid (w7.heap.size ≤ g_w8) := hlo
  have HI_G : Hid (0 < xs.length → g_w8 < w8.heap.size) := fun h => hi.lt h
  have LW_G : Hid (W.heap.size ≤ g_w8) := by have h1 := HB_w7.out.size; show W.heap.size ≤ g_w8; omega
  have SZ_w8 : Hid (w7.heap.size ≤ w8.heap.size) := hb.size
  have Sv4 : Hid (Ints w8 a_w4 g_w4 xs) := Sv3.out.below hb
  have X0v3 : Hid (CVar BX0 n01 n02 n03 (some ⟨g_w5, 0, none⟩) g_w5 xs0.length xs0.length xs0 w8) := X0v2.out.below hb
  have X2v1 : Hid (Ints w8 (some ⟨g_w7, 0, none⟩) g_w7 vs2) := X2v0.out.below hb
  have HB_w8 : Hid (Below W.heap.size W w8) := HB_w7.out.trans (hb.mono HB_w7.out.size)
  have Gv0 : Hid (Ints w8 a_w8 g_w8 xs) := hi
  clear hb hi hlo hown m0 m1 m2 m3 Sv3 X0v2 X2v0 HB_w7
  go_wp2_with fail
  refine (eqInt64S_same w8 a_w8 a_w4 g_w8 g_w4 k_w8 k_w4 xs HXL.out Gv0.out Sv4.out).mono ?_
  rintro e w9 ⟨rfl, hb⟩
  have SZ_w9 : Hid (w8.heap.size ≤ w9.heap.size) := hb.size
  have Sv5 : Hid (Ints w9 a_w4 g_w4 xs) := Sv4.out.below hb
  have X0v4 : Hid (CVar BX0 n01 n02 n03 (some ⟨g_w5, 0, none⟩) g_w5 xs0.length xs0.length xs0 w9) := X0v3.out.below hb
  have X2v2 : Hid (Ints w9 (some ⟨g_w7, 0, none⟩) g_w7 vs2) := X2v1.out.below hb
  have Gv1 : Hid (Ints w9 a_w8 g_w8 xs) := Gv0.out.below hb
  have HB_w9 : Hid (Below W.heap.size W w9) := HB_w8.out.trans (hb.mono HB_w8.out.size)
  clear hb  Sv4 X0v3 X2v1 Gv0 HB_w8
  have p0 := X0v4.out.c0
  have p1 := X0v4.out.c1
  have p2 := X0v4.out.c2
  have p3 := X0v4.out.c3
  have hacc : Below w9.heap.size w9 w9.drew := (Below.refl _ _).drew
  have HXK : Hid (CVar BX0 n01 n02 n03 (some ⟨g_w5, 0, none⟩) g_w5 xs0.length xs0.length xs0 w9) := X0v4.out
  have HCK : Hid (∀ w', Below w9.heap.size w9 w' → (w'.cell? ⟨w.heap.size, 0, none⟩ = some (.int .i64 n01) ∧ w'.cell? ⟨w.heap.size, 1, none⟩ = some (.int .i64 n02) ∧ w'.cell? ⟨w.heap.size, 2, none⟩ = some (.int .i64 n03) ∧ w'.cell? ⟨w.heap.size, 3, none⟩ = some (.slice a0 xs0.length c0)) ∧ w'.cell? ⟨BX0, 0, none⟩ = some (.int .i64 n01) ∧ w'.cell? ⟨BX0, 1, none⟩ = some (.int .i64 n02) ∧ w'.cell? ⟨BX0, 2, none⟩ = some (.int .i64 n03) ∧ w'.cell? ⟨BX0, 3, none⟩ = some (.slice (some ⟨g_w5, 0, none⟩) xs0.length xs0.length)) := fun w' h => ⟨HK.out w' (HB_w9.out.trans (h.mono HB_w9.out.size)), (HXK.out.below h).c0, (HXK.out.below h).c1, (HXK.out.below h).c2, (HXK.out.below h).c3⟩
  obtain ⟨m0, m1, m2, m3⟩ := HK.out w9 HB_w9.out
  go_wp2_with fail
  go_region_held3 (fun w' => (w'.cell? ⟨w.heap.size, 0, none⟩ = some (.int .i64 n01) ∧ w'.cell? ⟨w.heap.size, 1, none⟩ = some (.int .i64 n02) ∧ w'.cell? ⟨w.heap.size, 2, none⟩ = some (.int .i64 n03) ∧ w'.cell? ⟨w.heap.size, 3, none⟩ = some (.slice a0 xs0.length c0)) ∧ w'.cell? ⟨BX0, 0, none⟩ = some (.int .i64 n01) ∧ w'.cell? ⟨BX0, 1, none⟩ = some (.int .i64 n02) ∧ w'.cell? ⟨BX0, 2, none⟩ = some (.int .i64 n03) ∧ w'.cell? ⟨BX0, 3, none⟩ = some (.slice (some ⟨g_w5, 0, none⟩) xs0.length xs0.length)) (first | exact HCK.out _ hacc)
    (first | (go_at_call 17; refine (toConfig_any _ n01 n02 n03 a0 c0 xs0 HNC.out (HLW.out _ (HB_w9.out.trans (hacc.mono HB_w9.out.size)))).mono ?_; rintro e w10 ⟨g9, rfl, hg9, hg92, hl9, hr9, hb9⟩; have hac2 : Below w9.heap.size w9 w10 := hacc.trans (hb9.mono hacc.size); clear hacc hg9 hg92 hb9 hr9; have hacc := hac2; clear hac2) | (go_at_call 20; refine (eqConfig_same w10 n01 n02 n03 _ _ _ _ xs0 HNC.out (HXK.out.below hacc).tx.strs hl9).mono ?_; rintro e w11 ⟨rfl, hbT⟩; have hac2 : Below w9.heap.size w9 w11 := hacc.trans (hbT.mono hacc.size); clear hacc hbT hl9; have hacc := hac2; clear hac2))
  all_goals
    have SZ_w11 : Hid (w9.heap.size ≤ w11.heap.size) := hacc.size
    have Sv6 : Hid (Ints w11 a_w4 g_w4 xs) := Sv5.out.below hacc
    have X0v5 : Hid (CVar BX0 n01 n02 n03 (some ⟨g_w5, 0, none⟩) g_w5 xs0.length xs0.length xs0 w11) := X0v4.out.below hacc
    have X2v3 : Hid (Ints w11 (some ⟨g_w7, 0, none⟩) g_w7 vs2) := X2v2.out.below hacc
    have Gv2 : Hid (Ints w11 a_w8 g_w8 xs) := Gv1.out.below hacc
    have HB_w11 : Hid (Below W.heap.size W w11) := HB_w9.out.trans (hacc.mono HB_w9.out.size)
    clear hacc m0 m1 m2 m3 p0 p1 p2 p3 HXK HCK Sv5 X0v4 X2v2 Gv1 HB_w9
    go_wp2_with fail
    refine (toInt64S_any w11 b2 vc2 vs2 HN2.out (HK2.out _ HB_w11.out)).mono ?_
    rintro e w12 ⟨g_w12, rfl, hlo, hhi, hi, hb⟩
    have LO_Rw12 : Hid (w11.heap.size ≤ g_w12) := hlo
    have HI_Rw12 : Hid (g_w12 < w12.heap.size) := hhi
    have LW_Rw12 : Hid (W.heap.size ≤ g_w12) := by have h1 := HB_w11.out.size; show W.heap.size ≤ g_w12; omega
    have SZ_w12 : Hid (w11.heap.size ≤ w12.heap.size) := hb.size
    have Sv7 : Hid (Ints w12 a_w4 g_w4 xs) := Sv6.out.below hb
    have X0v6 : Hid (CVar BX0 n01 n02 n03 (some ⟨g_w5, 0, none⟩) g_w5 xs0.length xs0.length xs0 w12) := X0v5.out.below hb
    have X2v4 : Hid (Ints w12 (some ⟨g_w7, 0, none⟩) g_w7 vs2) := X2v3.out.below hb
    have Gv3 : Hid (Ints w12 a_w8 g_w8 xs) := Gv2.out.below hb
    have HB_w12 : Hid (Below W.heap.size W w12) := HB_w11.out.trans (hb.mono HB_w11.out.size)
    have Rw12v0 : Hid (Ints w12 (some ⟨g_w12, 0, none⟩) g_w12 vs2) := hi
    clear hb hi hlo hhi Sv6 X0v5 X2v3 Gv2 HB_w11
    go_wp2_with fail
    refine (eqInt64S_same w12 (some ⟨g_w7, 0, none⟩) (some ⟨g_w12, 0, none⟩) g_w7 g_w12 vs2.length vs2.length vs2 HN2.out X2v4.out Rw12v0.out).mono ?_
    rintro e w13 ⟨rfl, hb⟩
    have SZ_w13 : Hid (w12.heap.size ≤ w13.heap.size) := hb.size
    have Sv8 : Hid (Ints w13 a_w4 g_w4 xs) := Sv7.out.below hb
    have X0v7 : Hid (CVar BX0 n01 n02 n03 (some ⟨g_w5, 0, none⟩) g_w5 xs0.length xs0.length xs0 w13) := X0v6.out.below hb
    have X2v5 : Hid (Ints w13 (some ⟨g_w7, 0, none⟩) g_w7 vs2) := X2v4.out.below hb
    have Gv4 : Hid (Ints w13 a_w8 g_w8 xs) := Gv3.out.below hb
    have Rw12v1 : Hid (Ints w13 (some ⟨g_w12, 0, none⟩) g_w12 vs2) := Rw12v0.out.below hb
    have HB_w13 : Hid (Below W.heap.size W w13) := HB_w12.out.trans (hb.mono HB_w12.out.size)
    clear hb  Sv7 X0v6 X2v4 Gv3 Rw12v0 HB_w12
    clear Rw12v1
    have m0 := X0v7.out.c0
    have m1 := X0v7.out.c1
    have m2 := X0v7.out.c2
    have m3 := X0v7.out.c3
    go_wp2_with fail
    refine (markConfig_any w13 n01 n02 n03 (some ⟨g_w5, 0, none⟩) g_w5 xs0.length xs0.length xs0 1 rfl X0v7.out.tx HNC.out (by omega) (by omega)).mono ?_
    rintro e w14 ⟨rfl, hg, hm⟩
    have Sv9 : Hid (Ints w14 a_w4 g_w4 xs) := Sv8.out.grown2 hg (fun h => by have o0 := SZ_w2.out; have o1 := LO_Rw2.out; have o2 := HI_Rw2.out; have o3 := SZ_w3.out; have o4 := LO_Rw3.out; have o5 := HI_Rw3.out; have o6 := SZ_w4.out; have o7 := LO_S.out; have o8 := SZ_w5.out; have o9 := LO_X0.out; have o10 := HI_X0.out; have o11 := SZ_Y6.out; have o12 := HEX0.out; have o13 := BL_X0.out; have o14 := SZ_w7.out; have o15 := LO_X2.out; have o16 := HI_X2.out; have o17 := SZ_w8.out; have o18 := LO_G.out; have o19 := SZ_w9.out; have o20 := SZ_w11.out; have o21 := SZ_w12.out; have o22 := LO_Rw12.out; have o23 := HI_Rw12.out; have o24 := SZ_w13.out; have oc := HI_S.out h; omega)
    have X2v6 : Hid (Ints w14 (some ⟨g_w7, 0, none⟩) g_w7 vs2) := X2v5.out.grown2 hg (fun h => by have o0 := SZ_w2.out; have o1 := LO_Rw2.out; have o2 := HI_Rw2.out; have o3 := SZ_w3.out; have o4 := LO_Rw3.out; have o5 := HI_Rw3.out; have o6 := SZ_w4.out; have o7 := LO_S.out; have o8 := SZ_w5.out; have o9 := LO_X0.out; have o10 := HI_X0.out; have o11 := SZ_Y6.out; have o12 := HEX0.out; have o13 := BL_X0.out; have o14 := SZ_w7.out; have o15 := LO_X2.out; have o16 := HI_X2.out; have o17 := SZ_w8.out; have o18 := LO_G.out; have o19 := SZ_w9.out; have o20 := SZ_w11.out; have o21 := SZ_w12.out; have o22 := LO_Rw12.out; have o23 := HI_Rw12.out; have o24 := SZ_w13.out; omega)
    have Gv5 : Hid (Ints w14 a_w8 g_w8 xs) := Gv4.out.grown2 hg (fun h => by have o0 := SZ_w2.out; have o1 := LO_Rw2.out; have o2 := HI_Rw2.out; have o3 := SZ_w3.out; have o4 := LO_Rw3.out; have o5 := HI_Rw3.out; have o6 := SZ_w4.out; have o7 := LO_S.out; have o8 := SZ_w5.out; have o9 := LO_X0.out; have o10 := HI_X0.out; have o11 := SZ_Y6.out; have o12 := HEX0.out; have o13 := BL_X0.out; have o14 := SZ_w7.out; have o15 := LO_X2.out; have o16 := HI_X2.out; have o17 := SZ_w8.out; have o18 := LO_G.out; have o19 := SZ_w9.out; have o20 := SZ_w11.out; have o21 := SZ_w12.out; have o22 := LO_Rw12.out; have o23 := HI_Rw12.out; have o24 := SZ_w13.out; have oc := HI_G.out h; omega)
    have SZ_w14 : Hid (w13.heap.size ≤ w14.heap.size) := hg.size
    have HB_w14 : Hid (Below W.heap.size W w14) := HB_w13.out.trans (below_of_grown hg HB_w13.out.size LW_X0.out)
    clear m0 m1 m2 m3
    clear hg hm Sv8 X0v7 X2v5 Gv4 HB_w13
    obtain ⟨kk0, hkk0⟩ : ∃ k : Nat, k = 1 + xs0.length := ⟨_, rfl⟩
    have hkb0 : kk0 ≤ 1048577 ∧ 0 < kk0 := by have := HNC.out; omega
    rw [← hkk0]
    clear hkk0
    go_wp2_with fail
    refine (markInt64S_any w14 (some ⟨g_w7, 0, none⟩) g_w7 vs2.length vs2.length vs2 kk0 rfl X2v6.out HN2.out (by omega)).mono ?_
    rintro e w15 ⟨rfl, hg, hm⟩
    have Sv10 : Hid (Ints w15 a_w4 g_w4 xs) := Sv9.out.grown2 hg (fun h => by have o0 := SZ_w2.out; have o1 := LO_Rw2.out; have o2 := HI_Rw2.out; have o3 := SZ_w3.out; have o4 := LO_Rw3.out; have o5 := HI_Rw3.out; have o6 := SZ_w4.out; have o7 := LO_S.out; have o8 := SZ_w5.out; have o9 := LO_X0.out; have o10 := HI_X0.out; have o11 := SZ_Y6.out; have o12 := HEX0.out; have o13 := BL_X0.out; have o14 := SZ_w7.out; have o15 := LO_X2.out; have o16 := HI_X2.out; have o17 := SZ_w8.out; have o18 := LO_G.out; have o19 := SZ_w9.out; have o20 := SZ_w11.out; have o21 := SZ_w12.out; have o22 := LO_Rw12.out; have o23 := HI_Rw12.out; have o24 := SZ_w13.out; have o25 := SZ_w14.out; have oc := HI_S.out h; omega)
    have Gv6 : Hid (Ints w15 a_w8 g_w8 xs) := Gv5.out.grown2 hg (fun h => by have o0 := SZ_w2.out; have o1 := LO_Rw2.out; have o2 := HI_Rw2.out; have o3 := SZ_w3.out; have o4 := LO_Rw3.out; have o5 := HI_Rw3.out; have o6 := SZ_w4.out; have o7 := LO_S.out; have o8 := SZ_w5.out; have o9 := LO_X0.out; have o10 := HI_X0.out; have o11 := SZ_Y6.out; have o12 := HEX0.out; have o13 := BL_X0.out; have o14 := SZ_w7.out; have o15 := LO_X2.out; have o16 := HI_X2.out; have o17 := SZ_w8.out; have o18 := LO_G.out; have o19 := SZ_w9.out; have o20 := SZ_w11.out; have o21 := SZ_w12.out; have o22 := LO_Rw12.out; have o23 := HI_Rw12.out; have o24 := SZ_w13.out; have o25 := SZ_w14.out; have oc := HI_G.out h; omega)
    have SZ_w15 : Hid (w14.heap.size ≤ w15.heap.size) := hg.size
    have HB_w15 : Hid (Below W.heap.size W w15) := HB_w14.out.trans (below_of_grown hg HB_w14.out.size LW_X2.out)
    clear hg hm Sv9 X2v6 Gv5 HB_w14
    obtain ⟨kk1, hkk1⟩ : ∃ k : Nat, k = kk0 + vs2.length := ⟨_, rfl⟩
    have hkb1 : kk1 ≤ 2097153 ∧ 0 < kk1 := by have := HN2.out; omega
    rw [← hkk1]
    clear hkk1
    obtain ⟨hkl, hk0⟩ := hkb1
    have hkn : ¬ (kk1 : Int) < 0 := by omega
    go_wp2_with fail
    refine (eqInt64S_same w15 a_w8 a_w4 g_w8 g_w4 k_w8 k_w4 xs HXL.out Gv6.out Sv10.out).mono ?_
    rintro e w16 ⟨rfl, hb⟩
    have SZ_w16 : Hid (w15.heap.size ≤ w16.heap.size) := hb.size
    have Sv11 : Hid (Ints w16 a_w4 g_w4 xs) := Sv10.out.below hb
    have Gv7 : Hid (Ints w16 a_w8 g_w8 xs) := Gv6.out.below hb
    have HB_w16 : Hid (Below W.heap.size W w16) := HB_w15.out.trans (hb.mono HB_w15.out.size)
    clear hb  Sv10 Gv6 HB_w15
    clear hkn
    go_wp2_with fail
    refine (markInt64S_any w16 a_w8 g_w8 xs.length k_w8 xs 1 rfl Gv7.out HXL.out (by omega)).mono ?_
    rintro e w17 ⟨rfl, hg, hm⟩
    have Sv12 : Hid (Ints w17 a_w4 g_w4 xs) := Sv11.out.grown2 hg (fun h => by have o0 := SZ_w2.out; have o1 := LO_Rw2.out; have o2 := HI_Rw2.out; have o3 := SZ_w3.out; have o4 := LO_Rw3.out; have o5 := HI_Rw3.out; have o6 := SZ_w4.out; have o7 := LO_S.out; have o8 := SZ_w5.out; have o9 := LO_X0.out; have o10 := HI_X0.out; have o11 := SZ_Y6.out; have o12 := HEX0.out; have o13 := BL_X0.out; have o14 := SZ_w7.out; have o15 := LO_X2.out; have o16 := HI_X2.out; have o17 := SZ_w8.out; have o18 := LO_G.out; have o19 := SZ_w9.out; have o20 := SZ_w11.out; have o21 := SZ_w12.out; have o22 := LO_Rw12.out; have o23 := HI_Rw12.out; have o24 := SZ_w13.out; have o25 := SZ_w14.out; have o26 := SZ_w15.out; have o27 := SZ_w16.out; have oc := HI_S.out h; omega)
    have SZ_w17 : Hid (w16.heap.size ≤ w17.heap.size) := hg.size
    have HB_w17 : Hid (Below W.heap.size W w17) := HB_w16.out.trans (below_of_grown hg HB_w16.out.size LW_G.out)
    have Gv8 : Hid (Ints w17 a_w8 g_w8 (marks 1 xs.length)) := hm
    clear hg hm Sv11 Gv7 HB_w16
    rw [← HKM.out]
    go_wp2_with fail
    refine (heldInt64S_any w17 a_w8 g_w8 xs.length k_w8 1 Gv8.out HXL.out (by omega)).mono ?_
    rintro e w18 ⟨rfl, hb⟩
    rw [← HKM.out]
    have SZ_w18 : Hid (w17.heap.size ≤ w18.heap.size) := hb.size
    have Sv13 : Hid (Ints w18 a_w4 g_w4 xs) := Sv12.out.below hb
    have Gv9 : Hid (Ints w18 a_w8 g_w8 (marks 1 xs.length)) := Gv8.out.below hb
    have HB_w18 : Hid (Below W.heap.size W w18) := HB_w17.out.trans (hb.mono HB_w17.out.size)
    clear hb  Sv12 Gv8 HB_w17
    obtain ⟨m0, m1, m2, m3⟩ := HK.out w18 HB_w18.out
    go_wp2_with fail
    refine (toConfig_any w18 n01 n02 n03 a0 c0 xs0 HNC.out (HLW.out _ HB_w18.out)).mono ?_
    rintro e w19 ⟨g_w19, rfl, hlo, hhi, hst, hrw, hb⟩
    have LO_Rw19 : Hid (w18.heap.size ≤ g_w19) := hlo
    have HI_Rw19 : Hid (g_w19 < w19.heap.size) := hhi
    have LW_Rw19 : Hid (W.heap.size ≤ g_w19) := by have h1 := HB_w18.out.size; show W.heap.size ≤ g_w19; omega
    have SZ_w19 : Hid (w18.heap.size ≤ w19.heap.size) := hb.size
    have Sv14 : Hid (Ints w19 a_w4 g_w4 xs) := Sv13.out.below hb
    have Gv10 : Hid (Ints w19 a_w8 g_w8 (marks 1 xs.length)) := Gv9.out.below hb
    have HB_w19 : Hid (Below W.heap.size W w19) := HB_w18.out.trans (hb.mono HB_w18.out.size)
    have Rw19v0 : Hid (Txts w19 (some ⟨g_w19, 0, none⟩) g_w19 xs0) := txts_of hst hrw
    clear hb hlo hhi hst hrw m0 m1 m2 m3 Sv13 Gv9 HB_w18
    go_wp2_with fail
    refine (toInt64S_any w19 b2 vc2 vs2 HN2.out (HK2.out _ HB_w19.out)).mono ?_
    rintro e w20 ⟨g_w20, rfl, hlo, hhi, hi, hb⟩
    have LO_Rw20 : Hid (w19.heap.size ≤ g_w20) := hlo
    have HI_Rw20 : Hid (g_w20 < w20.heap.size) := hhi
    have LW_Rw20 : Hid (W.heap.size ≤ g_w20) := by have h1 := HB_w19.out.size; show W.heap.size ≤ g_w20; omega
    have SZ_w20 : Hid (w19.heap.size ≤ w20.heap.size) := hb.size
    have Sv15 : Hid (Ints w20 a_w4 g_w4 xs) := Sv14.out.below hb
    have Gv11 : Hid (Ints w20 a_w8 g_w8 (marks 1 xs.length)) := Gv10.out.below hb
    have Rw19v1 : Hid (Txts w20 (some ⟨g_w19, 0, none⟩) g_w19 xs0) := Rw19v0.out.below hb
    have HB_w20 : Hid (Below W.heap.size W w20) := HB_w19.out.trans (hb.mono HB_w19.out.size)
    have Rw20v0 : Hid (Ints w20 (some ⟨g_w20, 0, none⟩) g_w20 vs2) := hi
    clear hb hi hlo hhi Sv14 Gv10 Rw19v0 HB_w19
    go_wp2_with fail
    refine (HI.out w20 _ _ _ _ Rw19v1.out.strs Rw20v0.out.nums).mono ?_
    rintro e w21 ⟨v, rfl, hown, hb⟩
    obtain ⟨a_w21, g_w21, k_w21, rfl, hlo, hi⟩ := ints_of_row hown
    have LO_Hh : Hid (w20.heap.size ≤ g_w21) := hlo
    have HI_Hh : Hid (0 < xs.length → g_w21 < w21.heap.size) := fun h => hi.lt h
    have LW_Hh : Hid (W.heap.size ≤ g_w21) := by have h1 := HB_w20.out.size; show W.heap.size ≤ g_w21; omega
    have SZ_w21 : Hid (w20.heap.size ≤ w21.heap.size) := hb.size
    have Sv16 : Hid (Ints w21 a_w4 g_w4 xs) := Sv15.out.below hb
    have Gv12 : Hid (Ints w21 a_w8 g_w8 (marks 1 xs.length)) := Gv11.out.below hb
    have Rw19v2 : Hid (Txts w21 (some ⟨g_w19, 0, none⟩) g_w19 xs0) := Rw19v1.out.below hb
    have Rw20v1 : Hid (Ints w21 (some ⟨g_w20, 0, none⟩) g_w20 vs2) := Rw20v0.out.below hb
    have HB_w21 : Hid (Below W.heap.size W w21) := HB_w20.out.trans (hb.mono HB_w20.out.size)
    have Hhv0 : Hid (Ints w21 a_w21 g_w21 xs) := hi
    clear hb hi hlo hown  Sv15 Gv11 Rw19v1 Rw20v0 HB_w20
    clear Rw19v2
    clear Rw20v1
    go_wp2_with fail
    refine (eqInt64S_same w21 a_w21 a_w4 g_w21 g_w4 k_w21 k_w4 xs HXL.out Hhv0.out Sv16.out).mono ?_
    rintro e w22 ⟨rfl, hb⟩
    have SZ_w22 : Hid (w21.heap.size ≤ w22.heap.size) := hb.size
    have Sv17 : Hid (Ints w22 a_w4 g_w4 xs) := Sv16.out.below hb
    have Gv13 : Hid (Ints w22 a_w8 g_w8 (marks 1 xs.length)) := Gv12.out.below hb
    have Hhv1 : Hid (Ints w22 a_w21 g_w21 xs) := Hhv0.out.below hb
    have HB_w22 : Hid (Below W.heap.size W w22) := HB_w21.out.trans (hb.mono HB_w21.out.size)
    clear hb  Sv16 Gv12 Hhv0 HB_w21
    clear Hhv1
    go_wp2_with fail
    refine (heldInt64S_any w22 a_w8 g_w8 xs.length k_w8 1 Gv13.out HXL.out (by omega)).mono ?_
    rintro e w23 ⟨rfl, hb⟩
    rw [← HKM.out]
    have SZ_w23 : Hid (w22.heap.size ≤ w23.heap.size) := hb.size
    have Sv18 : Hid (Ints w23 a_w4 g_w4 xs) := Sv17.out.below hb
    have Gv14 : Hid (Ints w23 a_w8 g_w8 (marks 1 xs.length)) := Gv13.out.below hb
    have HB_w23 : Hid (Below W.heap.size W w23) := HB_w22.out.trans (hb.mono HB_w22.out.size)
    clear hb  Sv17 Gv13 HB_w22
    go_wp2
    go_ret
    exact ⟨rfl, HEnd.out _ HB_w23.out⟩

set_option maxRecDepth 100000 in
theorem lifted (os : Os) (started : os.Started) (H : Type) (enc : TypeId × Value → H) :
    ReturnsInHanded {} Try.checked os 6 .any (Rows.fnExactPlannedSpec.pre6 enc Try.prog Try.f6 Rows.fnExactPlannedRow.domain false) (Rows.fnExactPlannedSpec.post enc Try.prog Try.f6 false true false false) := by
  refine returnsInHanded_of_change (C := Try.checked) own started (by kernel_rfl) Try.func6
    (ChangeSpec.witness6 (enc := enc) (C := Try.checked) false ⟨#[], #[.agg #[.int .i64 0, .int .i64 0, .int .i64 0, .slice none 0 0], .string ByteArray.empty, .slice none 0 0], []⟩ 8 (by kernel_rfl) (by kernel_rfl) (by kernel_rfl) (by kernel_rfl)) ?_
  intro W base args ds gs before hval0 hW hcnd _
  have hval : ∀ (j : Nat) t v, Try.f6.params[j]? = some t → args[j]? = some v → Value.okWide Try.prog W .any base t v := hval0
  have hW' := hW
  obtain ⟨p, q, hA0, hV, rfl, hfz, hnd⟩ := hW
  have hA : DataW.TrodAll enc Try.prog W 0 (fun _ => true) true Try.f6.params.toList args.toList ds p := hA0
  rw [Try.params6] at hA hval
  obtain ⟨v0, vs_0, d0, ds0, p0, q0, hargs, rfl, rfl, h0, r0⟩ := trodAll_cons hA
  obtain ⟨v1, vs_1, d1, ds1, p1, q1, rfl, rfl, rfl, h1, r1⟩ := trodAll_cons r0
  obtain ⟨v2, vs_2, d2, ds2, p2, q2, rfl, rfl, rfl, h2, r2⟩ := trodAll_cons r1
  obtain ⟨rfl, rfl, rfl⟩ := trodAll_nil r2
  obtain rfl : args = #[v0, v1, v2] := by cases args; simp_all
  obtain ⟨rfl, rfl⟩ := trodVars_none hV
  have k_0 := h0
  have lt_0 : ∀ x ∈ p0, x.block < W.heap.size := by obtain ⟨m, hm⟩ := k_0; exact DataW.trod_lt m _ _ _ hm
  obtain ⟨n01, n02, n03, a0, c0, xs0, rfl, hn01, hn02, hn03, hl0, hm0, hz0⟩ := config_of (hval 0 37 v0 rfl rfl) h0
  obtain ⟨s1, rfl, rfl, rfl, hs1⟩ := Go.ChangeMaps.open_string Try.underlying9 (hval 1 9 v1 rfl rfl) h1
  have k_2 := h2
  have lt_2 : ∀ x ∈ p2, x.block < W.heap.size := by obtain ⟨m, hm⟩ := k_2; exact DataW.trod_lt m _ _ _ hm
  obtain ⟨b2, vc2, vs2, rfl, hn2, hk2, hw2⟩ := numsw_of (hval 2 27 v2 rfl rfl) h2
  clear hA0 hval0
  refine (walk n01 n02 n03 a0 c0 xs0 s1 b2 vc2 vs2 W hn01 hn02 hn03 hl0 hm0 hz0 hs1 hk2 hn2 hw2).mono fun e W' ⟨he, bel⟩ => ?_
  subst he
  exact ⟨_, rfl, _, _, _, [], _, [], hW', trodAll_mk1 (shut_bool Try.underlying4 _), (trodAll_cons_mk (Below.trod laidOut (by kernel_rfl) (of_decide_eq_true (by kernel_rfl)) k_0 bel lt_0) (trodAll_cons_mk (Go.ChangeMaps.shut_string Try.underlying9 hs1) (trodAll_cons_mk (Below.trod laidOut (by kernel_rfl) (of_decide_eq_true (by kernel_rfl)) k_2 bel lt_2) trodAll_mk0))), rfl, bel.frame _, fun h => by cases h⟩

theorem over : Rows.fnExactPlannedRow.holds Try.pinned (OpenSpec.ofChange Rows.fnExactPlannedSpec) :=
  OpenClaim.holds_of_wide 6 Try.f6 rfl rfl rfl rfl rfl rfl rfl ⟨rfl, rfl, rfl, rfl, rfl⟩ rfl rfl rfl rfl rfl (by kernel_rfl) Try.func6 (by kernel_rfl)
    (of_decide_eq_true (by kernel_rfl)) (by unfold Func.isWrapper; first | (rw [if_pos (by decide +kernel)]; kernel_rfl) | (rw [if_neg (by decide +kernel)]; exact ⟨rfl, rfl⟩))
    (fun os started H enc _ => lifted os started H enc)

theorem proved : Rows.FnExactPlannedSaid := over
#print axioms proved
end Go.Proofs.Ytomlogkbndmaaaa.fnExactPlanned
