/-
  FnExactRootsOf: for every config and every text the law that holds the program's RootsOf against the specification's RootsOf returns true, and the config reads as before; no condition.
-/
import Derived.Test.YthmohmfkgoipkaaOlds5
import Derived.Test.YthmohmfkgoipkaaCVar
import Derived.Test.YthmohmfkgoipkaaConfOpen
import Derived.Test.YthmohmfkgoipkaaObjVar
import Derived.Deep.RegionHeld3
import Derived.ProofKit
import Derived.OpenShut
import Derived.ShutString
import Derived.ChangeOld
import Derived.Below
import Derived.Lib.SmallJoins
namespace Go.Proofs.Ythmohmfkgoipkaa.fnExactRootsOf
open Go.ChangeShapes Go.WideShapes Go.ChangeAt Go.RowKit
open kinds ints txt cv img obj

theorem own : ownKnob Try.prog.godebug = none := by kernel_rfl
theorem laidOut : laidOutB Try.prog = true := by kernel_rfl

theorem rootsV_len (n1 n2 n3 : Int) (xs : List ByteArray) (s : ByteArray) : (rootsV n1 n2 n3 xs s).length ≤ 1048576 := by
  unfold rootsV
  split
  · rw [slotsK_len]; omega
  · simp
set_option linter.unusedVariables false in
set_option maxHeartbeats 4000000 in
set_option maxRecDepth 20000 in
theorem walk (n01 n02 n03 : Int) (a0 : Option Addr) (c0 : Nat) (xs0 : List ByteArray) (s1 : ByteArray) (w : World) (hn01 : (Lit.int .i64 n01).wf = true) (hn02 : (Lit.int .i64 n02).wf = true) (hn03 : (Lit.int .i64 n03).wf = true) (hl0 : Strs w a0 xs0) (hm0 : xs0.length ≤ maxLen) (hz0 : ∀ i (hi : i < xs0.length), xs0[i].size ≤ maxLen) (hs1 : s1.size ≤ maxLen) :
    Calls Try.prog 3 #[.agg #[.int .i64 n01, .int .i64 n02, .int .i64 n03, .slice a0 xs0.length c0], .string s1] w fun e w' => e = .returned (.bool true) ∧ Below w.heap.size w w' := by
  unfold maxLen at hs1
  obtain ⟨W, hW⟩ : ∃ W, W = w.alloc (.cells #[.int .i64 n01, .int .i64 n02, .int .i64 n03, .slice a0 xs0.length c0] 24) := ⟨_, rfl⟩
  have HB0 : Hid (Below w.heap.size w W) := by
    have h1 : Below w.heap.size w W := by rw [hW]; exact (Below.refl _ _).alloc (Nat.le_refl _) _
    exact h1
  have hsz : w.heap.size < W.heap.size := by rw [hW]; simp
  have HK : Hid (∀ w', Below W.heap.size W w' → w'.cell? ⟨w.heap.size, 0, none⟩ = some (.int .i64 n01) ∧ w'.cell? ⟨w.heap.size, 1, none⟩ = some (.int .i64 n02) ∧ w'.cell? ⟨w.heap.size, 2, none⟩ = some (.int .i64 n03) ∧ w'.cell? ⟨w.heap.size, 3, none⟩ = some (.slice a0 xs0.length c0)) := fun w' h =>
    ⟨by rw [h.cell (p := ⟨w.heap.size, 0, none⟩) hsz, hW, World.cell?_alloc_new]; rfl, by rw [h.cell (p := ⟨w.heap.size, 1, none⟩) hsz, hW, World.cell?_alloc_new]; rfl, by rw [h.cell (p := ⟨w.heap.size, 2, none⟩) hsz, hW, World.cell?_alloc_new]; rfl, by rw [h.cell (p := ⟨w.heap.size, 3, none⟩) hsz, hW, World.cell?_alloc_new]; rfl⟩
  have HW : Hid (W = w.alloc (.cells #[.int .i64 n01, .int .i64 n02, .int .i64 n03, .slice a0 xs0.length c0] 24)) := hW
  have HLW : Hid (∀ w', Below W.heap.size W w' → Strs w' a0 xs0) := fun w' h => (hl0.below HB0.out).below h
  have HEnd : Hid (∀ w', Below W.heap.size W w' → Below w.heap.size w w') := fun w' h => HB0.out.trans (h.mono HB0.out.size)
  have HSZ : Hid (∀ w, Strs w a0 xs0 → Calls _ _ _ w _) := fun w h => szConfig_any w n01 n02 n03 a0 c0 xs0 hm0 h hz0
  by_cases hbig1 : (1048576 : Int) < (s1.size : Int)
  · go_enter Try.func3, Try.ntmps3
    go_wp2
    go_ret
    exact ⟨rfl, by rw [← HW.out]; exact HB0.out⟩
  have hT1 : s1.size ≤ 1048576 := by omega
  clear hs1 hW hl0 hz0 hm0 hn01 hn02 hn03 
  go_enter Try.func3, Try.ntmps3
  go_wp2_with fail
  rw [← HW.out]
  refine (HSZ.out W (HLW.out W (Below.refl _ _))).mono ?_
  rintro e w1 ⟨r, rfl, hr0, hr2, hw⟩
  have HB_w1 : Hid (Below W.heap.size W w1) := hw
  have HR1 : Hid (0 ≤ r → xs0.length ≤ 1048576 ∧ ∀ i (hi : i < xs0.length), xs0[i].size ≤ 1048576) := hr2
  clear hr2 hw
  by_cases hneg : r < 0
  · go_wp2
    go_ret
    exact ⟨rfl, HEnd.out _ HB_w1.out⟩
  obtain ⟨hnC, hzC⟩ := HR1.out (by omega)
  have HNC : Hid (xs0.length ≤ 1048576) := hnC
  have HS : Hid (∀ (w : World) (aC : Option Addr) (kC : Nat) , Strs w aC xs0 → _) := fun w aC kC  qC  => spec_roots w n01 n02 n03 aC kC xs0 s1 hT1 hnC qC hzC
  have HI : Hid (∀ (w : World) (aC : Option Addr) (kC : Nat) , Strs w aC xs0 → _) := fun w aC kC  qC  => impl_roots w n01 n02 n03 aC kC xs0 s1 hT1 hnC qC hzC
  have hbnd := rootsV_len n01 n02 n03 xs0 s1
  have hxl : (rootsV n01 n02 n03 xs0 s1).length ≤ 1048576 := hbnd
  generalize rootsV n01 n02 n03 xs0 s1 = xs at HS HI hxl
  generalize rootsB n01 n02 n03 xs0 s1 = r1 at HS HI
  have hqq1 : (r1 == r1) = true := by simp
  have hqn1 : (r1 != r1) = false := by simp
  have HXL : Hid (xs.length ≤ 1048576) := hxl
  obtain ⟨km, hkm⟩ : ∃ km : Int, km = ((1 + xs.length : Nat) : Int) := ⟨_, rfl⟩
  have HKM : Hid (km = ((1 + xs.length : Nat) : Int)) := hkm
  have hq0 : (km != km) = false := by simp
  have hq1 : ¬ km < 0 := by omega
  clear hxl hbnd hkm
  clear hT1 hnC hzC HR1 hr0
  obtain ⟨m0, m1, m2, m3⟩ := HK.out w1 HB_w1.out
  go_wp2_with fail
  refine (toConfig_any w1 n01 n02 n03 a0 c0 xs0 HNC.out (HLW.out _ HB_w1.out)).mono ?_
  rintro e w2 ⟨g_w2, rfl, hlo, hhi, hst, hrw, hb⟩
  have LO_Rw2 : Hid (w1.heap.size ≤ g_w2) := hlo
  have HI_Rw2 : Hid (g_w2 < w2.heap.size) := hhi
  have LW_Rw2 : Hid (W.heap.size ≤ g_w2) := by have h1 := HB_w1.out.size; show W.heap.size ≤ g_w2; omega
  have SZ_w2 : Hid (w1.heap.size ≤ w2.heap.size) := hb.size
  have HB_w2 : Hid (Below W.heap.size W w2) := HB_w1.out.trans (hb.mono HB_w1.out.size)
  have Rw2v0 : Hid (Txts w2 (some ⟨g_w2, 0, none⟩) g_w2 xs0) := txts_of hst hrw
  clear hb hlo hhi hst hrw m0 m1 m2 m3 HB_w1
  go_wp2_with fail
  refine (HS.out w2 _ _ Rw2v0.out.strs).mono ?_
  rintro e w3 ⟨v, rfl, hown, hb⟩
  obtain ⟨a_w3, g_w3, k_w3, rfl, hlo, hi⟩ := ints_of_row hown
  have LO_S : Hid (w2.heap.size ≤ g_w3) := hlo
  have HI_S : Hid (0 < xs.length → g_w3 < w3.heap.size) := fun h => hi.lt h
  have LW_S : Hid (W.heap.size ≤ g_w3) := by have h1 := HB_w2.out.size; show W.heap.size ≤ g_w3; omega
  have SZ_w3 : Hid (w2.heap.size ≤ w3.heap.size) := hb.size
  have Rw2v1 : Hid (Txts w3 (some ⟨g_w2, 0, none⟩) g_w2 xs0) := Rw2v0.out.below hb
  have HB_w3 : Hid (Below W.heap.size W w3) := HB_w2.out.trans (hb.mono HB_w2.out.size)
  have Sv0 : Hid (Ints w3 a_w3 g_w3 xs) := hi
  clear hb hi hlo hown  Rw2v0 HB_w2
  clear Rw2v1
  obtain ⟨m0, m1, m2, m3⟩ := HK.out w3 HB_w3.out
  go_wp2_with fail
  refine (toConfig_any w3 n01 n02 n03 a0 c0 xs0 HNC.out (HLW.out _ HB_w3.out)).mono ?_
  rintro e w4 ⟨g_w4, rfl, hlo, hhi, hst, hrw, hb⟩
  have LO_X0 : Hid (w3.heap.size ≤ g_w4) := hlo
  have HI_X0 : Hid (g_w4 < w4.heap.size) := hhi
  have LW_X0 : Hid (W.heap.size ≤ g_w4) := by have h1 := HB_w3.out.size; show W.heap.size ≤ g_w4; omega
  have SZ_w4 : Hid (w3.heap.size ≤ w4.heap.size) := hb.size
  have Sv1 : Hid (Ints w4 a_w3 g_w3 xs) := Sv0.out.below hb
  have HB_w4 : Hid (Below W.heap.size W w4) := HB_w3.out.trans (hb.mono HB_w3.out.size)
  have X0v0 : Hid (Txts w4 (some ⟨g_w4, 0, none⟩) g_w4 xs0) := txts_of hst hrw
  clear hb hlo hhi hst hrw m0 m1 m2 m3 Sv0 HB_w3
  obtain ⟨Y5, hY5⟩ : ∃ Y, Y = w4.alloc (.cells #[.int .i64 n01, .int .i64 n02, .int .i64 n03, .slice (some ⟨g_w4, 0, none⟩) xs0.length xs0.length] 29) := ⟨_, rfl⟩
  have HY5 : Hid (Y5 = w4.alloc (.cells #[.int .i64 n01, .int .i64 n02, .int .i64 n03, .slice (some ⟨g_w4, 0, none⟩) xs0.length xs0.length] 29)) := hY5
  have hbY5 : Below w4.heap.size w4 Y5 := by rw [hY5]; exact (Below.refl _ _).alloc (Nat.le_refl _) _
  obtain ⟨BX0, hBX0⟩ : ∃ B, B = w4.heap.size := ⟨_, rfl⟩
  have HEX0 : Hid (BX0 = w4.heap.size) := hBX0
  have X0bx : Hid (CVar BX0 n01 n02 n03 (some ⟨g_w4, 0, none⟩) g_w4 xs0.length xs0.length xs0 Y5) := by rw [hY5, hBX0]; exact CVar.start w4 n01 n02 n03 _ g_w4 _ _ xs0 _ rfl X0v0.out
  have BL_X0 : Hid (BX0 < Y5.heap.size) := X0bx.out.lt
  have BW_X0 : Hid (W.heap.size ≤ BX0) := by have h1 := HB_w4.out.size; show W.heap.size ≤ BX0; omega
  have SZ_Y5 : Hid (w4.heap.size ≤ Y5.heap.size) := hbY5.size
  have Sv2 : Hid (Ints Y5 a_w3 g_w3 xs) := Sv1.out.below hbY5
  have HB_Y5 : Hid (Below W.heap.size W Y5) := HB_w4.out.trans (hbY5.mono HB_w4.out.size)
  have X0v1 : Hid (CVar BX0 n01 n02 n03 (some ⟨g_w4, 0, none⟩) g_w4 xs0.length xs0.length xs0 Y5) := X0bx.out
  clear hY5 hbY5 hBX0 X0bx X0v0 Sv1 HB_w4
  go_wp2_with fail
  rw [← HY5.out]
  try rw [← HEX0.out]
  refine (HI.out Y5 _ _ X0v1.out.tx.strs).mono ?_
  rintro e w6 ⟨v, rfl, hown, hb⟩
  obtain ⟨a_w6, g_w6, k_w6, rfl, hlo, hi⟩ := ints_of_row hown
  have LO_G : Hid (Y5.heap.size ≤ g_w6) := hlo
  have HI_G : Hid (0 < xs.length → g_w6 < w6.heap.size) := fun h => hi.lt h
  have LW_G : Hid (W.heap.size ≤ g_w6) := by have h1 := HB_Y5.out.size; show W.heap.size ≤ g_w6; omega
  have SZ_w6 : Hid (Y5.heap.size ≤ w6.heap.size) := hb.size
  have Sv3 : Hid (Ints w6 a_w3 g_w3 xs) := Sv2.out.below hb
  have X0v2 : Hid (CVar BX0 n01 n02 n03 (some ⟨g_w4, 0, none⟩) g_w4 xs0.length xs0.length xs0 w6) := X0v1.out.below hb
  have HB_w6 : Hid (Below W.heap.size W w6) := HB_Y5.out.trans (hb.mono HB_Y5.out.size)
  have Gv0 : Hid (Ints w6 a_w6 g_w6 xs) := hi
  clear hb hi hlo hown  Sv2 X0v1 HB_Y5
  go_wp2_with fail
  refine (eqInt64S_same w6 a_w6 a_w3 g_w6 g_w3 k_w6 k_w3 xs HXL.out Gv0.out Sv3.out).mono ?_
  rintro e w7 ⟨rfl, hb⟩
  have SZ_w7 : Hid (w6.heap.size ≤ w7.heap.size) := hb.size
  have Sv4 : Hid (Ints w7 a_w3 g_w3 xs) := Sv3.out.below hb
  have X0v3 : Hid (CVar BX0 n01 n02 n03 (some ⟨g_w4, 0, none⟩) g_w4 xs0.length xs0.length xs0 w7) := X0v2.out.below hb
  have Gv1 : Hid (Ints w7 a_w6 g_w6 xs) := Gv0.out.below hb
  have HB_w7 : Hid (Below W.heap.size W w7) := HB_w6.out.trans (hb.mono HB_w6.out.size)
  clear hb  Sv3 X0v2 Gv0 HB_w6
  have p0 := X0v3.out.c0
  have p1 := X0v3.out.c1
  have p2 := X0v3.out.c2
  have p3 := X0v3.out.c3
  have hacc : Below w7.heap.size w7 w7.drew := (Below.refl _ _).drew
  have HXK : Hid (CVar BX0 n01 n02 n03 (some ⟨g_w4, 0, none⟩) g_w4 xs0.length xs0.length xs0 w7) := X0v3.out
  have HCK : Hid (∀ w', Below w7.heap.size w7 w' → (w'.cell? ⟨w.heap.size, 0, none⟩ = some (.int .i64 n01) ∧ w'.cell? ⟨w.heap.size, 1, none⟩ = some (.int .i64 n02) ∧ w'.cell? ⟨w.heap.size, 2, none⟩ = some (.int .i64 n03) ∧ w'.cell? ⟨w.heap.size, 3, none⟩ = some (.slice a0 xs0.length c0)) ∧ w'.cell? ⟨BX0, 0, none⟩ = some (.int .i64 n01) ∧ w'.cell? ⟨BX0, 1, none⟩ = some (.int .i64 n02) ∧ w'.cell? ⟨BX0, 2, none⟩ = some (.int .i64 n03) ∧ w'.cell? ⟨BX0, 3, none⟩ = some (.slice (some ⟨g_w4, 0, none⟩) xs0.length xs0.length)) := fun w' h => ⟨HK.out w' (HB_w7.out.trans (h.mono HB_w7.out.size)), (HXK.out.below h).c0, (HXK.out.below h).c1, (HXK.out.below h).c2, (HXK.out.below h).c3⟩
  obtain ⟨m0, m1, m2, m3⟩ := HK.out w7 HB_w7.out
  go_wp2_with fail
  go_region_held3 (fun w' => (w'.cell? ⟨w.heap.size, 0, none⟩ = some (.int .i64 n01) ∧ w'.cell? ⟨w.heap.size, 1, none⟩ = some (.int .i64 n02) ∧ w'.cell? ⟨w.heap.size, 2, none⟩ = some (.int .i64 n03) ∧ w'.cell? ⟨w.heap.size, 3, none⟩ = some (.slice a0 xs0.length c0)) ∧ w'.cell? ⟨BX0, 0, none⟩ = some (.int .i64 n01) ∧ w'.cell? ⟨BX0, 1, none⟩ = some (.int .i64 n02) ∧ w'.cell? ⟨BX0, 2, none⟩ = some (.int .i64 n03) ∧ w'.cell? ⟨BX0, 3, none⟩ = some (.slice (some ⟨g_w4, 0, none⟩) xs0.length xs0.length)) (first | exact HCK.out _ hacc)
    (first | (go_at_call 7; refine (toConfig_any _ n01 n02 n03 a0 c0 xs0 HNC.out (HLW.out _ (HB_w7.out.trans (hacc.mono HB_w7.out.size)))).mono ?_; rintro e w8 ⟨g9, rfl, hg9, hg92, hl9, hr9, hb9⟩; have hac2 : Below w7.heap.size w7 w8 := hacc.trans (hb9.mono hacc.size); clear hacc hg9 hg92 hb9 hr9; have hacc := hac2; clear hac2) | (go_at_call 10; refine (eqConfig_same w8 n01 n02 n03 _ _ _ _ xs0 HNC.out (HXK.out.below hacc).tx.strs hl9).mono ?_; rintro e w9 ⟨rfl, hbT⟩; have hac2 : Below w7.heap.size w7 w9 := hacc.trans (hbT.mono hacc.size); clear hacc hbT hl9; have hacc := hac2; clear hac2))
  all_goals
    have SZ_w9 : Hid (w7.heap.size ≤ w9.heap.size) := hacc.size
    have Sv5 : Hid (Ints w9 a_w3 g_w3 xs) := Sv4.out.below hacc
    have X0v4 : Hid (CVar BX0 n01 n02 n03 (some ⟨g_w4, 0, none⟩) g_w4 xs0.length xs0.length xs0 w9) := X0v3.out.below hacc
    have Gv2 : Hid (Ints w9 a_w6 g_w6 xs) := Gv1.out.below hacc
    have HB_w9 : Hid (Below W.heap.size W w9) := HB_w7.out.trans (hacc.mono HB_w7.out.size)
    clear hacc m0 m1 m2 m3 p0 p1 p2 p3 HXK HCK Sv4 X0v3 Gv1 HB_w7
    have m0 := X0v4.out.c0
    have m1 := X0v4.out.c1
    have m2 := X0v4.out.c2
    have m3 := X0v4.out.c3
    go_wp2_with fail
    refine (markConfig_any w9 n01 n02 n03 (some ⟨g_w4, 0, none⟩) g_w4 xs0.length xs0.length xs0 1 rfl X0v4.out.tx HNC.out (by omega) (by omega)).mono ?_
    rintro e w10 ⟨rfl, hg, hm⟩
    have Sv6 : Hid (Ints w10 a_w3 g_w3 xs) := Sv5.out.grown2 hg (fun h => by have o0 := SZ_w2.out; have o1 := LO_Rw2.out; have o2 := HI_Rw2.out; have o3 := SZ_w3.out; have o4 := LO_S.out; have o5 := SZ_w4.out; have o6 := LO_X0.out; have o7 := HI_X0.out; have o8 := SZ_Y5.out; have o9 := HEX0.out; have o10 := BL_X0.out; have o11 := SZ_w6.out; have o12 := LO_G.out; have o13 := SZ_w7.out; have o14 := SZ_w9.out; have oc := HI_S.out h; omega)
    have Gv3 : Hid (Ints w10 a_w6 g_w6 xs) := Gv2.out.grown2 hg (fun h => by have o0 := SZ_w2.out; have o1 := LO_Rw2.out; have o2 := HI_Rw2.out; have o3 := SZ_w3.out; have o4 := LO_S.out; have o5 := SZ_w4.out; have o6 := LO_X0.out; have o7 := HI_X0.out; have o8 := SZ_Y5.out; have o9 := HEX0.out; have o10 := BL_X0.out; have o11 := SZ_w6.out; have o12 := LO_G.out; have o13 := SZ_w7.out; have o14 := SZ_w9.out; have oc := HI_G.out h; omega)
    have SZ_w10 : Hid (w9.heap.size ≤ w10.heap.size) := hg.size
    have HB_w10 : Hid (Below W.heap.size W w10) := HB_w9.out.trans (below_of_grown hg HB_w9.out.size LW_X0.out)
    clear m0 m1 m2 m3
    clear hg hm Sv5 X0v4 Gv2 HB_w9
    obtain ⟨kk0, hkk0⟩ : ∃ k : Nat, k = 1 + xs0.length := ⟨_, rfl⟩
    have hkb0 : kk0 ≤ 1048577 ∧ 0 < kk0 := by have := HNC.out; omega
    rw [← hkk0]
    clear hkk0
    obtain ⟨hkl, hk0⟩ := hkb0
    have hkn : ¬ (kk0 : Int) < 0 := by omega
    go_wp2_with fail
    refine (eqInt64S_same w10 a_w6 a_w3 g_w6 g_w3 k_w6 k_w3 xs HXL.out Gv3.out Sv6.out).mono ?_
    rintro e w11 ⟨rfl, hb⟩
    have SZ_w11 : Hid (w10.heap.size ≤ w11.heap.size) := hb.size
    have Sv7 : Hid (Ints w11 a_w3 g_w3 xs) := Sv6.out.below hb
    have Gv4 : Hid (Ints w11 a_w6 g_w6 xs) := Gv3.out.below hb
    have HB_w11 : Hid (Below W.heap.size W w11) := HB_w10.out.trans (hb.mono HB_w10.out.size)
    clear hb  Sv6 Gv3 HB_w10
    clear hkn
    go_wp2_with fail
    refine (markInt64S_any w11 a_w6 g_w6 xs.length k_w6 xs 1 rfl Gv4.out HXL.out (by omega)).mono ?_
    rintro e w12 ⟨rfl, hg, hm⟩
    have Sv8 : Hid (Ints w12 a_w3 g_w3 xs) := Sv7.out.grown2 hg (fun h => by have o0 := SZ_w2.out; have o1 := LO_Rw2.out; have o2 := HI_Rw2.out; have o3 := SZ_w3.out; have o4 := LO_S.out; have o5 := SZ_w4.out; have o6 := LO_X0.out; have o7 := HI_X0.out; have o8 := SZ_Y5.out; have o9 := HEX0.out; have o10 := BL_X0.out; have o11 := SZ_w6.out; have o12 := LO_G.out; have o13 := SZ_w7.out; have o14 := SZ_w9.out; have o15 := SZ_w10.out; have o16 := SZ_w11.out; have oc := HI_S.out h; omega)
    have SZ_w12 : Hid (w11.heap.size ≤ w12.heap.size) := hg.size
    have HB_w12 : Hid (Below W.heap.size W w12) := HB_w11.out.trans (below_of_grown hg HB_w11.out.size LW_G.out)
    have Gv5 : Hid (Ints w12 a_w6 g_w6 (marks 1 xs.length)) := hm
    clear hg hm Sv7 Gv4 HB_w11
    rw [← HKM.out]
    go_wp2_with fail
    refine (heldInt64S_any w12 a_w6 g_w6 xs.length k_w6 1 Gv5.out HXL.out (by omega)).mono ?_
    rintro e w13 ⟨rfl, hb⟩
    rw [← HKM.out]
    have SZ_w13 : Hid (w12.heap.size ≤ w13.heap.size) := hb.size
    have Sv9 : Hid (Ints w13 a_w3 g_w3 xs) := Sv8.out.below hb
    have Gv6 : Hid (Ints w13 a_w6 g_w6 (marks 1 xs.length)) := Gv5.out.below hb
    have HB_w13 : Hid (Below W.heap.size W w13) := HB_w12.out.trans (hb.mono HB_w12.out.size)
    clear hb  Sv8 Gv5 HB_w12
    obtain ⟨m0, m1, m2, m3⟩ := HK.out w13 HB_w13.out
    go_wp2_with fail
    refine (toConfig_any w13 n01 n02 n03 a0 c0 xs0 HNC.out (HLW.out _ HB_w13.out)).mono ?_
    rintro e w14 ⟨g_w14, rfl, hlo, hhi, hst, hrw, hb⟩
    have LO_Rw14 : Hid (w13.heap.size ≤ g_w14) := hlo
    have HI_Rw14 : Hid (g_w14 < w14.heap.size) := hhi
    have LW_Rw14 : Hid (W.heap.size ≤ g_w14) := by have h1 := HB_w13.out.size; show W.heap.size ≤ g_w14; omega
    have SZ_w14 : Hid (w13.heap.size ≤ w14.heap.size) := hb.size
    have Sv10 : Hid (Ints w14 a_w3 g_w3 xs) := Sv9.out.below hb
    have Gv7 : Hid (Ints w14 a_w6 g_w6 (marks 1 xs.length)) := Gv6.out.below hb
    have HB_w14 : Hid (Below W.heap.size W w14) := HB_w13.out.trans (hb.mono HB_w13.out.size)
    have Rw14v0 : Hid (Txts w14 (some ⟨g_w14, 0, none⟩) g_w14 xs0) := txts_of hst hrw
    clear hb hlo hhi hst hrw m0 m1 m2 m3 Sv9 Gv6 HB_w13
    go_wp2_with fail
    refine (HI.out w14 _ _ Rw14v0.out.strs).mono ?_
    rintro e w15 ⟨v, rfl, hown, hb⟩
    obtain ⟨a_w15, g_w15, k_w15, rfl, hlo, hi⟩ := ints_of_row hown
    have LO_Hh : Hid (w14.heap.size ≤ g_w15) := hlo
    have HI_Hh : Hid (0 < xs.length → g_w15 < w15.heap.size) := fun h => hi.lt h
    have LW_Hh : Hid (W.heap.size ≤ g_w15) := by have h1 := HB_w14.out.size; show W.heap.size ≤ g_w15; omega
    have SZ_w15 : Hid (w14.heap.size ≤ w15.heap.size) := hb.size
    have Sv11 : Hid (Ints w15 a_w3 g_w3 xs) := Sv10.out.below hb
    have Gv8 : Hid (Ints w15 a_w6 g_w6 (marks 1 xs.length)) := Gv7.out.below hb
    have Rw14v1 : Hid (Txts w15 (some ⟨g_w14, 0, none⟩) g_w14 xs0) := Rw14v0.out.below hb
    have HB_w15 : Hid (Below W.heap.size W w15) := HB_w14.out.trans (hb.mono HB_w14.out.size)
    have Hhv0 : Hid (Ints w15 a_w15 g_w15 xs) := hi
    clear hb hi hlo hown  Sv10 Gv7 Rw14v0 HB_w14
    clear Rw14v1
    go_wp2_with fail
    refine (eqInt64S_same w15 a_w15 a_w3 g_w15 g_w3 k_w15 k_w3 xs HXL.out Hhv0.out Sv11.out).mono ?_
    rintro e w16 ⟨rfl, hb⟩
    have SZ_w16 : Hid (w15.heap.size ≤ w16.heap.size) := hb.size
    have Sv12 : Hid (Ints w16 a_w3 g_w3 xs) := Sv11.out.below hb
    have Gv9 : Hid (Ints w16 a_w6 g_w6 (marks 1 xs.length)) := Gv8.out.below hb
    have Hhv1 : Hid (Ints w16 a_w15 g_w15 xs) := Hhv0.out.below hb
    have HB_w16 : Hid (Below W.heap.size W w16) := HB_w15.out.trans (hb.mono HB_w15.out.size)
    clear hb  Sv11 Gv8 Hhv0 HB_w15
    clear Hhv1
    go_wp2_with fail
    refine (heldInt64S_any w16 a_w6 g_w6 xs.length k_w6 1 Gv9.out HXL.out (by omega)).mono ?_
    rintro e w17 ⟨rfl, hb⟩
    rw [← HKM.out]
    have SZ_w17 : Hid (w16.heap.size ≤ w17.heap.size) := hb.size
    have Sv13 : Hid (Ints w17 a_w3 g_w3 xs) := Sv12.out.below hb
    have Gv10 : Hid (Ints w17 a_w6 g_w6 (marks 1 xs.length)) := Gv9.out.below hb
    have HB_w17 : Hid (Below W.heap.size W w17) := HB_w16.out.trans (hb.mono HB_w16.out.size)
    clear hb  Sv12 Gv9 HB_w16
    go_wp2
    go_ret
    exact ⟨rfl, HEnd.out _ HB_w17.out⟩

set_option maxRecDepth 100000 in
theorem lifted (os : Os) (started : os.Started) (H : Type) (enc : TypeId × Value → H) :
    ReturnsInHanded {} Try.checked os 3 .any (Rows.fnExactRootsOfSpec.pre6 enc Try.prog Try.f3 Rows.fnExactRootsOfRow.domain false) (Rows.fnExactRootsOfSpec.post enc Try.prog Try.f3 false true false false) := by
  refine returnsInHanded_of_change (C := Try.checked) own started (by kernel_rfl) Try.func3
    (ChangeSpec.witness6 (enc := enc) (C := Try.checked) false ⟨#[], #[.agg #[.int .i64 0, .int .i64 0, .int .i64 0, .slice none 0 0], .string ByteArray.empty], []⟩ 8 (by kernel_rfl) (by kernel_rfl) (by kernel_rfl) (by kernel_rfl)) ?_
  intro W base args ds gs before hval0 hW hcnd _
  have hval : ∀ (j : Nat) t v, Try.f3.params[j]? = some t → args[j]? = some v → Value.okWide Try.prog W .any base t v := hval0
  have hW' := hW
  obtain ⟨p, q, hA0, hV, rfl, hfz, hnd⟩ := hW
  have hA : DataW.TrodAll enc Try.prog W 0 (fun _ => true) true Try.f3.params.toList args.toList ds p := hA0
  rw [Try.params3] at hA hval
  obtain ⟨v0, vs_0, d0, ds0, p0, q0, hargs, rfl, rfl, h0, r0⟩ := trodAll_cons hA
  obtain ⟨v1, vs_1, d1, ds1, p1, q1, rfl, rfl, rfl, h1, r1⟩ := trodAll_cons r0
  obtain ⟨rfl, rfl, rfl⟩ := trodAll_nil r1
  obtain rfl : args = #[v0, v1] := by cases args; simp_all
  obtain ⟨rfl, rfl⟩ := trodVars_none hV
  have k_0 := h0
  have lt_0 : ∀ x ∈ p0, x.block < W.heap.size := by obtain ⟨m, hm⟩ := k_0; exact DataW.trod_lt m _ _ _ hm
  obtain ⟨n01, n02, n03, a0, c0, xs0, rfl, hn01, hn02, hn03, hl0, hm0, hz0⟩ := config_of (hval 0 24 v0 rfl rfl) h0
  obtain ⟨s1, rfl, rfl, rfl, hs1⟩ := Go.ChangeMaps.open_string Try.underlying9 (hval 1 9 v1 rfl rfl) h1
  clear hA0 hval0
  refine (walk n01 n02 n03 a0 c0 xs0 s1 W hn01 hn02 hn03 hl0 hm0 hz0 hs1).mono fun e W' ⟨he, bel⟩ => ?_
  subst he
  exact ⟨_, rfl, _, _, _, [], _, [], hW', trodAll_mk1 (shut_bool Try.underlying4 _), (trodAll_cons_mk (Below.trod laidOut (by kernel_rfl) (of_decide_eq_true (by kernel_rfl)) k_0 bel lt_0) (trodAll_cons_mk (Go.ChangeMaps.shut_string Try.underlying9 hs1) trodAll_mk0)), rfl, bel.frame _, fun h => by cases h⟩

theorem over : Rows.fnExactRootsOfRow.holds Try.pinned (OpenSpec.ofChange Rows.fnExactRootsOfSpec) :=
  OpenClaim.holds_of_wide 3 Try.f3 rfl rfl rfl rfl rfl rfl rfl ⟨rfl, rfl, rfl, rfl, rfl⟩ rfl rfl rfl rfl rfl (by kernel_rfl) Try.func3 (by kernel_rfl)
    (of_decide_eq_true (by kernel_rfl)) (by unfold Func.isWrapper; first | (rw [if_pos (by decide +kernel)]; kernel_rfl) | (rw [if_neg (by decide +kernel)]; exact ⟨rfl, rfl⟩))
    (fun os started H enc _ => lifted os started H enc)

theorem proved : Rows.FnExactRootsOfSaid := over
#print axioms proved
end Go.Proofs.Ythmohmfkgoipkaa.fnExactRootsOf
