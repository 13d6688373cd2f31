/-
  FnExactOldObject: for every config, every text and every whole number the law that holds the program's OldObject against the specification's OldObject returns true, and the config reads as before; no condition.
-/
import Derived.Test.YthmohmfkgoipkaaOld4
import Derived.Test.YthmohmfkgoipkaaCVar
import Derived.Test.YthmohmfkgoipkaaConfOpen
import Derived.Test.YthmohmfkgoipkaaObjVar
import Derived.Deep.RegionHeld3
import Derived.ProofKit
import Derived.OpenShut
import Derived.ShutString
import Derived.ChangeOld
import Derived.Below
import Derived.Lib.SmallJoins
namespace Go.Proofs.Ythmohmfkgoipkaa.fnExactOldObject
open Go.ChangeShapes Go.WideShapes Go.ChangeAt Go.RowKit
open kinds ints txt cv img obj

theorem own : ownKnob Try.prog.godebug = none := by kernel_rfl
theorem laidOut : laidOutB Try.prog = true := by kernel_rfl


set_option linter.unusedVariables false in
set_option maxHeartbeats 4000000 in
set_option maxRecDepth 20000 in
theorem walk (n01 n02 n03 : Int) (a0 : Option Addr) (c0 : Nat) (xs0 : List ByteArray) (s1 : ByteArray) (x2 : Int) (w : World) (hn01 : (Lit.int .i64 n01).wf = true) (hn02 : (Lit.int .i64 n02).wf = true) (hn03 : (Lit.int .i64 n03).wf = true) (hl0 : Strs w a0 xs0) (hm0 : xs0.length ≤ maxLen) (hz0 : ∀ i (hi : i < xs0.length), xs0[i].size ≤ maxLen) (hs1 : s1.size ≤ maxLen) (hx2 : (Lit.int .i64 x2).wf = true) :
    Calls Try.prog 4 #[.agg #[.int .i64 n01, .int .i64 n02, .int .i64 n03, .slice a0 xs0.length c0], .string s1, .int .i64 x2] w fun e w' => e = .returned (.bool true) ∧ Below w.heap.size w w' := by
  unfold maxLen at hs1
  obtain ⟨W, hW⟩ : ∃ W, W = w.alloc (.cells #[.int .i64 n01, .int .i64 n02, .int .i64 n03, .slice a0 xs0.length c0] 24) := ⟨_, rfl⟩
  have HB0 : Hid (Below w.heap.size w W) := by
    have h1 : Below w.heap.size w W := by rw [hW]; exact (Below.refl _ _).alloc (Nat.le_refl _) _
    exact h1
  have hsz : w.heap.size < W.heap.size := by rw [hW]; simp
  have HK : Hid (∀ w', Below W.heap.size W w' → w'.cell? ⟨w.heap.size, 0, none⟩ = some (.int .i64 n01) ∧ w'.cell? ⟨w.heap.size, 1, none⟩ = some (.int .i64 n02) ∧ w'.cell? ⟨w.heap.size, 2, none⟩ = some (.int .i64 n03) ∧ w'.cell? ⟨w.heap.size, 3, none⟩ = some (.slice a0 xs0.length c0)) := fun w' h =>
    ⟨by rw [h.cell (p := ⟨w.heap.size, 0, none⟩) hsz, hW, World.cell?_alloc_new]; rfl, by rw [h.cell (p := ⟨w.heap.size, 1, none⟩) hsz, hW, World.cell?_alloc_new]; rfl, by rw [h.cell (p := ⟨w.heap.size, 2, none⟩) hsz, hW, World.cell?_alloc_new]; rfl, by rw [h.cell (p := ⟨w.heap.size, 3, none⟩) hsz, hW, World.cell?_alloc_new]; rfl⟩
  have HW : Hid (W = w.alloc (.cells #[.int .i64 n01, .int .i64 n02, .int .i64 n03, .slice a0 xs0.length c0] 24)) := hW
  have HLW : Hid (∀ w', Below W.heap.size W w' → Strs w' a0 xs0) := fun w' h => (hl0.below HB0.out).below h
  have HEnd : Hid (∀ w', Below W.heap.size W w' → Below w.heap.size w w') := fun w' h => HB0.out.trans (h.mono HB0.out.size)
  have HSZ : Hid (∀ w, Strs w a0 xs0 → Calls _ _ _ w _) := fun w h => szConfig_any w n01 n02 n03 a0 c0 xs0 hm0 h hz0
  by_cases hbig1 : (1048576 : Int) < (s1.size : Int)
  · go_enter Try.func4, Try.ntmps4
    go_wp2
    go_ret
    exact ⟨rfl, by rw [← HW.out]; exact HB0.out⟩
  have hT1 : s1.size ≤ 1048576 := by omega
  clear hs1 hW hl0 hz0 hm0 hn01 hn02 hn03 
  go_enter Try.func4, Try.ntmps4
  go_wp2_with fail
  rw [← HW.out]
  refine (HSZ.out W (HLW.out W (Below.refl _ _))).mono ?_
  rintro e w1 ⟨r, rfl, hr0, hr2, hw⟩
  have HB_w1 : Hid (Below W.heap.size W w1) := hw
  have HR1 : Hid (0 ≤ r → xs0.length ≤ 1048576 ∧ ∀ i (hi : i < xs0.length), xs0[i].size ≤ 1048576) := hr2
  clear hr2 hw
  by_cases hneg : r < 0
  · go_wp2
    go_ret
    exact ⟨rfl, HEnd.out _ HB_w1.out⟩
  obtain ⟨hnC, hzC⟩ := HR1.out (by omega)
  have HNC : Hid (xs0.length ≤ 1048576) := hnC
  have HS : Hid (∀ (w : World) (aC : Option Addr) (kC : Nat) , Strs w aC xs0 → _) := fun w aC kC  qC  => (spec_old w n01 n02 n03 aC kC xs0 s1 x2 hT1 hnC qC hzC).mono fun _ _ h => h.1
  have HI : Hid (∀ (w : World) (aC : Option Addr) (kC : Nat) , Strs w aC xs0 → _) := fun w aC kC  qC  => (impl_old w n01 n02 n03 aC kC xs0 s1 x2 hT1 hnC qC hzC).mono fun _ _ h => h.1
  have hbnd := ooV_len n01 n02 n03 xs0 s1 x2
  unfold OoAns at HS HI
  have hxl : (ooV n01 n02 n03 xs0 s1 x2).length ≤ 1048576 := hbnd
  generalize ooT n01 n02 n03 xs0 s1 x2 = t at HS HI
  generalize ooV n01 n02 n03 xs0 s1 x2 = xs at HS HI hxl
  generalize ooB n01 n02 n03 xs0 s1 x2 = r1 at HS HI
  have hqq1 : (r1 == r1) = true := by simp
  have hqn1 : (r1 != r1) = false := by simp
  have HXL : Hid (xs.length ≤ 1048576) := hxl
  obtain ⟨km, hkm⟩ : ∃ km : Int, km = ((1 + xs.length : Nat) : Int) := ⟨_, rfl⟩
  have HKM : Hid (km = ((1 + xs.length : Nat) : Int)) := hkm
  have hq0 : (km != km) = false := by simp
  have hq1 : ¬ km < 0 := by omega
  clear hxl hbnd hkm
  clear hT1 hnC hzC HR1 hr0
  obtain ⟨m0, m1, m2, m3⟩ := HK.out w1 HB_w1.out
  go_wp2_with fail
  refine (toConfig_any w1 n01 n02 n03 a0 c0 xs0 HNC.out (HLW.out _ HB_w1.out)).mono ?_
  rintro e w2 ⟨g_w2, rfl, hlo, hhi, hst, hrw, hb⟩
  have LO_Rw2 : Hid (w1.heap.size ≤ g_w2) := hlo
  have HI_Rw2 : Hid (g_w2 < w2.heap.size) := hhi
  have LW_Rw2 : Hid (W.heap.size ≤ g_w2) := by have h1 := HB_w1.out.size; show W.heap.size ≤ g_w2; omega
  have SZ_w2 : Hid (w1.heap.size ≤ w2.heap.size) := hb.size
  have HB_w2 : Hid (Below W.heap.size W w2) := HB_w1.out.trans (hb.mono HB_w1.out.size)
  have Rw2v0 : Hid (Txts w2 (some ⟨g_w2, 0, none⟩) g_w2 xs0) := txts_of hst hrw
  clear hb hlo hhi hst hrw m0 m1 m2 m3 HB_w1
  go_wp2_with fail
  refine (HS.out w2 _ _ Rw2v0.out.strs).mono ?_
  rintro e w3 ⟨v, rfl, hown, hb⟩
  obtain ⟨a_w3, g_w3, k_w3, rfl, hlo, hi⟩ := ints_of_row hown
  have LO_S : Hid (w2.heap.size ≤ g_w3) := hlo
  have HI_S : Hid (0 < xs.length → g_w3 < w3.heap.size) := fun h => hi.lt h
  have LW_S : Hid (W.heap.size ≤ g_w3) := by have h1 := HB_w2.out.size; show W.heap.size ≤ g_w3; omega
  have SZ_w3 : Hid (w2.heap.size ≤ w3.heap.size) := hb.size
  have Rw2v1 : Hid (Txts w3 (some ⟨g_w2, 0, none⟩) g_w2 xs0) := Rw2v0.out.below hb
  have HB_w3 : Hid (Below W.heap.size W w3) := HB_w2.out.trans (hb.mono HB_w2.out.size)
  have Sv0 : Hid (Ints w3 a_w3 g_w3 xs) := hi
  clear hb hi hlo hown  Rw2v0 HB_w2
  obtain ⟨Y4, hY4⟩ : ∃ Y, Y = w3.alloc (.cells #[.int .i64 t, .slice a_w3 xs.length k_w3] 37) := ⟨_, rfl⟩
  have HY4 : Hid (Y4 = w3.alloc (.cells #[.int .i64 t, .slice a_w3 xs.length k_w3] 37)) := hY4
  have hbY4 : Below w3.heap.size w3 Y4 := by rw [hY4]; exact (Below.refl _ _).alloc (Nat.le_refl _) _
  obtain ⟨BS, hBS⟩ : ∃ B, B = w3.heap.size := ⟨_, rfl⟩
  have HES : Hid (BS = w3.heap.size) := hBS
  have Sbx : Hid (OVar BS t a_w3 g_w3 xs.length k_w3 xs Y4) := by rw [hY4, hBS]; exact OVar.start w3 t a_w3 g_w3 xs.length k_w3 xs _ rfl Sv0.out
  have BL_S : Hid (BS < Y4.heap.size) := Sbx.out.lt
  have BW_S : Hid (W.heap.size ≤ BS) := by have h1 := HB_w3.out.size; show W.heap.size ≤ BS; omega
  have SZ_Y4 : Hid (w3.heap.size ≤ Y4.heap.size) := hbY4.size
  have Rw2v2 : Hid (Txts Y4 (some ⟨g_w2, 0, none⟩) g_w2 xs0) := Rw2v1.out.below hbY4
  have HB_Y4 : Hid (Below W.heap.size W Y4) := HB_w3.out.trans (hbY4.mono HB_w3.out.size)
  have Sv1 : Hid (OVar BS t a_w3 g_w3 xs.length k_w3 xs Y4) := Sbx.out
  clear hY4 hbY4 hBS Sbx Sv0 Rw2v1 HB_w3
  clear Rw2v2
  obtain ⟨m0, m1, m2, m3⟩ := HK.out Y4 HB_Y4.out
  go_wp2_with (first | (rw [← HY4.out, ← HES.out]) | (rw [← HY4.out]))
  try rw [← HY4.out]
  try rw [← HES.out]
  refine (toConfig_any Y4 n01 n02 n03 a0 c0 xs0 HNC.out (HLW.out _ HB_Y4.out)).mono ?_
  rintro e w5 ⟨g_w5, rfl, hlo, hhi, hst, hrw, hb⟩
  have LO_X0 : Hid (Y4.heap.size ≤ g_w5) := hlo
  have HI_X0 : Hid (g_w5 < w5.heap.size) := hhi
  have LW_X0 : Hid (W.heap.size ≤ g_w5) := by have h1 := HB_Y4.out.size; show W.heap.size ≤ g_w5; omega
  have SZ_w5 : Hid (Y4.heap.size ≤ w5.heap.size) := hb.size
  have Sv2 : Hid (OVar BS t a_w3 g_w3 xs.length k_w3 xs w5) := Sv1.out.below hb
  have HB_w5 : Hid (Below W.heap.size W w5) := HB_Y4.out.trans (hb.mono HB_Y4.out.size)
  have X0v0 : Hid (Txts w5 (some ⟨g_w5, 0, none⟩) g_w5 xs0) := txts_of hst hrw
  clear hb hlo hhi hst hrw m0 m1 m2 m3 Sv1 HB_Y4
  obtain ⟨Y6, hY6⟩ : ∃ Y, Y = w5.alloc (.cells #[.int .i64 n01, .int .i64 n02, .int .i64 n03, .slice (some ⟨g_w5, 0, none⟩) xs0.length xs0.length] 29) := ⟨_, rfl⟩
  have HY6 : Hid (Y6 = w5.alloc (.cells #[.int .i64 n01, .int .i64 n02, .int .i64 n03, .slice (some ⟨g_w5, 0, none⟩) xs0.length xs0.length] 29)) := hY6
  have hbY6 : Below w5.heap.size w5 Y6 := by rw [hY6]; exact (Below.refl _ _).alloc (Nat.le_refl _) _
  obtain ⟨BX0, hBX0⟩ : ∃ B, B = w5.heap.size := ⟨_, rfl⟩
  have HEX0 : Hid (BX0 = w5.heap.size) := hBX0
  have X0bx : Hid (CVar BX0 n01 n02 n03 (some ⟨g_w5, 0, none⟩) g_w5 xs0.length xs0.length xs0 Y6) := by rw [hY6, hBX0]; exact CVar.start w5 n01 n02 n03 _ g_w5 _ _ xs0 _ rfl X0v0.out
  have BL_X0 : Hid (BX0 < Y6.heap.size) := X0bx.out.lt
  have BW_X0 : Hid (W.heap.size ≤ BX0) := by have h1 := HB_w5.out.size; show W.heap.size ≤ BX0; omega
  have SZ_Y6 : Hid (w5.heap.size ≤ Y6.heap.size) := hbY6.size
  have Sv3 : Hid (OVar BS t a_w3 g_w3 xs.length k_w3 xs Y6) := Sv2.out.below hbY6
  have HB_Y6 : Hid (Below W.heap.size W Y6) := HB_w5.out.trans (hbY6.mono HB_w5.out.size)
  have X0v1 : Hid (CVar BX0 n01 n02 n03 (some ⟨g_w5, 0, none⟩) g_w5 xs0.length xs0.length xs0 Y6) := X0bx.out
  clear hY6 hbY6 hBX0 X0bx X0v0 Sv2 HB_w5
  have m0 := X0v1.out.c0
  have m1 := X0v1.out.c1
  have m2 := X0v1.out.c2
  have m3 := X0v1.out.c3
  go_wp2_with (first | (rw [← HY6.out, ← HEX0.out]) | (rw [← HY6.out]))
  try rw [← HY6.out]
  try rw [← HEX0.out]
  refine (HI.out Y6 _ _ X0v1.out.tx.strs).mono ?_
  rintro e w7 ⟨v, rfl, hown, hb⟩
  obtain ⟨a_w7, g_w7, k_w7, rfl, hlo, hi⟩ := ints_of_row hown
  have LO_G : Hid (Y6.heap.size ≤ g_w7) := hlo
  have HI_G : Hid (0 < xs.length → g_w7 < w7.heap.size) := fun h => hi.lt h
  have LW_G : Hid (W.heap.size ≤ g_w7) := by have h1 := HB_Y6.out.size; show W.heap.size ≤ g_w7; omega
  have SZ_w7 : Hid (Y6.heap.size ≤ w7.heap.size) := hb.size
  have Sv4 : Hid (OVar BS t a_w3 g_w3 xs.length k_w3 xs w7) := Sv3.out.below hb
  have X0v2 : Hid (CVar BX0 n01 n02 n03 (some ⟨g_w5, 0, none⟩) g_w5 xs0.length xs0.length xs0 w7) := X0v1.out.below hb
  have HB_w7 : Hid (Below W.heap.size W w7) := HB_Y6.out.trans (hb.mono HB_Y6.out.size)
  have Gv0 : Hid (Ints w7 a_w7 g_w7 xs) := hi
  clear hb hi hlo hown m0 m1 m2 m3 Sv3 X0v1 HB_Y6
  obtain ⟨Y8, hY8⟩ : ∃ Y, Y = w7.alloc (.cells #[.int .i64 t, .slice a_w7 xs.length k_w7] 37) := ⟨_, rfl⟩
  have HY8 : Hid (Y8 = w7.alloc (.cells #[.int .i64 t, .slice a_w7 xs.length k_w7] 37)) := hY8
  have hbY8 : Below w7.heap.size w7 Y8 := by rw [hY8]; exact (Below.refl _ _).alloc (Nat.le_refl _) _
  obtain ⟨BG, hBG⟩ : ∃ B, B = w7.heap.size := ⟨_, rfl⟩
  have HEG : Hid (BG = w7.heap.size) := hBG
  have Gbx : Hid (OVar BG t a_w7 g_w7 xs.length k_w7 xs Y8) := by rw [hY8, hBG]; exact OVar.start w7 t a_w7 g_w7 xs.length k_w7 xs _ rfl Gv0.out
  have BL_G : Hid (BG < Y8.heap.size) := Gbx.out.lt
  have BW_G : Hid (W.heap.size ≤ BG) := by have h1 := HB_w7.out.size; show W.heap.size ≤ BG; omega
  have SZ_Y8 : Hid (w7.heap.size ≤ Y8.heap.size) := hbY8.size
  have Sv5 : Hid (OVar BS t a_w3 g_w3 xs.length k_w3 xs Y8) := Sv4.out.below hbY8
  have X0v3 : Hid (CVar BX0 n01 n02 n03 (some ⟨g_w5, 0, none⟩) g_w5 xs0.length xs0.length xs0 Y8) := X0v2.out.below hbY8
  have HB_Y8 : Hid (Below W.heap.size W Y8) := HB_w7.out.trans (hbY8.mono HB_w7.out.size)
  have Gv1 : Hid (OVar BG t a_w7 g_w7 xs.length k_w7 xs Y8) := Gbx.out
  clear hY8 hbY8 hBG Gbx Gv0 Sv4 X0v2 HB_w7
  have p0 := Gv1.out.c0
  have p1 := Gv1.out.c1
  have q0 := Sv5.out.c0
  have q1 := Sv5.out.c1
  go_wp2_with (first | (rw [← HY8.out, ← HEG.out]) | (rw [← HY8.out]))
  try rw [← HY8.out]
  try rw [← HEG.out]
  refine (eqObj_same Y8 t a_w7 a_w3 g_w7 g_w3 xs.length k_w7 k_w3 xs rfl HXL.out Gv1.out.tx Sv5.out.tx).mono ?_
  rintro e w9 ⟨rfl, hb⟩
  have SZ_w9 : Hid (Y8.heap.size ≤ w9.heap.size) := hb.size
  have Sv6 : Hid (OVar BS t a_w3 g_w3 xs.length k_w3 xs w9) := Sv5.out.below hb
  have X0v4 : Hid (CVar BX0 n01 n02 n03 (some ⟨g_w5, 0, none⟩) g_w5 xs0.length xs0.length xs0 w9) := X0v3.out.below hb
  have Gv2 : Hid (OVar BG t a_w7 g_w7 xs.length k_w7 xs w9) := Gv1.out.below hb
  have HB_w9 : Hid (Below W.heap.size W w9) := HB_Y8.out.trans (hb.mono HB_Y8.out.size)
  clear hb p0 p1 q0 q1 Sv5 X0v3 Gv1 HB_Y8
  have p0 := X0v4.out.c0
  have p1 := X0v4.out.c1
  have p2 := X0v4.out.c2
  have p3 := X0v4.out.c3
  have hacc : Below w9.heap.size w9 w9.drew := (Below.refl _ _).drew
  have HXK : Hid (CVar BX0 n01 n02 n03 (some ⟨g_w5, 0, none⟩) g_w5 xs0.length xs0.length xs0 w9) := X0v4.out
  have HCK : Hid (∀ w', Below w9.heap.size w9 w' → (w'.cell? ⟨w.heap.size, 0, none⟩ = some (.int .i64 n01) ∧ w'.cell? ⟨w.heap.size, 1, none⟩ = some (.int .i64 n02) ∧ w'.cell? ⟨w.heap.size, 2, none⟩ = some (.int .i64 n03) ∧ w'.cell? ⟨w.heap.size, 3, none⟩ = some (.slice a0 xs0.length c0)) ∧ w'.cell? ⟨BX0, 0, none⟩ = some (.int .i64 n01) ∧ w'.cell? ⟨BX0, 1, none⟩ = some (.int .i64 n02) ∧ w'.cell? ⟨BX0, 2, none⟩ = some (.int .i64 n03) ∧ w'.cell? ⟨BX0, 3, none⟩ = some (.slice (some ⟨g_w5, 0, none⟩) xs0.length xs0.length)) := fun w' h => ⟨HK.out w' (HB_w9.out.trans (h.mono HB_w9.out.size)), (HXK.out.below h).c0, (HXK.out.below h).c1, (HXK.out.below h).c2, (HXK.out.below h).c3⟩
  obtain ⟨m0, m1, m2, m3⟩ := HK.out w9 HB_w9.out
  go_wp2_with fail
  go_region_held3 (fun w' => (w'.cell? ⟨w.heap.size, 0, none⟩ = some (.int .i64 n01) ∧ w'.cell? ⟨w.heap.size, 1, none⟩ = some (.int .i64 n02) ∧ w'.cell? ⟨w.heap.size, 2, none⟩ = some (.int .i64 n03) ∧ w'.cell? ⟨w.heap.size, 3, none⟩ = some (.slice a0 xs0.length c0)) ∧ w'.cell? ⟨BX0, 0, none⟩ = some (.int .i64 n01) ∧ w'.cell? ⟨BX0, 1, none⟩ = some (.int .i64 n02) ∧ w'.cell? ⟨BX0, 2, none⟩ = some (.int .i64 n03) ∧ w'.cell? ⟨BX0, 3, none⟩ = some (.slice (some ⟨g_w5, 0, none⟩) xs0.length xs0.length)) (first | exact HCK.out _ hacc)
    (first | (go_at_call 7; refine (toConfig_any _ n01 n02 n03 a0 c0 xs0 HNC.out (HLW.out _ (HB_w9.out.trans (hacc.mono HB_w9.out.size)))).mono ?_; rintro e w10 ⟨g9, rfl, hg9, hg92, hl9, hr9, hb9⟩; have hac2 : Below w9.heap.size w9 w10 := hacc.trans (hb9.mono hacc.size); clear hacc hg9 hg92 hb9 hr9; have hacc := hac2; clear hac2) | (go_at_call 10; refine (eqConfig_same w10 n01 n02 n03 _ _ _ _ xs0 HNC.out (HXK.out.below hacc).tx.strs hl9).mono ?_; rintro e w11 ⟨rfl, hbT⟩; have hac2 : Below w9.heap.size w9 w11 := hacc.trans (hbT.mono hacc.size); clear hacc hbT hl9; have hacc := hac2; clear hac2))
  all_goals
    have SZ_w11 : Hid (w9.heap.size ≤ w11.heap.size) := hacc.size
    have Sv7 : Hid (OVar BS t a_w3 g_w3 xs.length k_w3 xs w11) := Sv6.out.below hacc
    have X0v5 : Hid (CVar BX0 n01 n02 n03 (some ⟨g_w5, 0, none⟩) g_w5 xs0.length xs0.length xs0 w11) := X0v4.out.below hacc
    have Gv3 : Hid (OVar BG t a_w7 g_w7 xs.length k_w7 xs w11) := Gv2.out.below hacc
    have HB_w11 : Hid (Below W.heap.size W w11) := HB_w9.out.trans (hacc.mono HB_w9.out.size)
    clear hacc m0 m1 m2 m3 p0 p1 p2 p3 HXK HCK Sv6 X0v4 Gv2 HB_w9
    have m0 := X0v5.out.c0
    have m1 := X0v5.out.c1
    have m2 := X0v5.out.c2
    have m3 := X0v5.out.c3
    go_wp2_with fail
    refine (markConfig_any w11 n01 n02 n03 (some ⟨g_w5, 0, none⟩) g_w5 xs0.length xs0.length xs0 1 rfl X0v5.out.tx HNC.out (by omega) (by omega)).mono ?_
    rintro e w12 ⟨rfl, hg, hm⟩
    have Sv8 : Hid (OVar BS t a_w3 g_w3 xs.length k_w3 xs w12) := Sv7.out.grown hg (by have o0 := SZ_w2.out; have o1 := LO_Rw2.out; have o2 := HI_Rw2.out; have o3 := SZ_w3.out; have o4 := LO_S.out; have o5 := SZ_Y4.out; have o6 := HES.out; have o7 := BL_S.out; have o8 := SZ_w5.out; have o9 := LO_X0.out; have o10 := HI_X0.out; have o11 := SZ_Y6.out; have o12 := HEX0.out; have o13 := BL_X0.out; have o14 := SZ_w7.out; have o15 := LO_G.out; have o16 := SZ_Y8.out; have o17 := HEG.out; have o18 := BL_G.out; have o19 := SZ_w9.out; have o20 := SZ_w11.out; omega) (fun h => by have o0 := SZ_w2.out; have o1 := LO_Rw2.out; have o2 := HI_Rw2.out; have o3 := SZ_w3.out; have o4 := LO_S.out; have o5 := SZ_Y4.out; have o6 := HES.out; have o7 := BL_S.out; have o8 := SZ_w5.out; have o9 := LO_X0.out; have o10 := HI_X0.out; have o11 := SZ_Y6.out; have o12 := HEX0.out; have o13 := BL_X0.out; have o14 := SZ_w7.out; have o15 := LO_G.out; have o16 := SZ_Y8.out; have o17 := HEG.out; have o18 := BL_G.out; have o19 := SZ_w9.out; have o20 := SZ_w11.out; have oc := HI_S.out h; omega)
    have Gv4 : Hid (OVar BG t a_w7 g_w7 xs.length k_w7 xs w12) := Gv3.out.grown hg (by have o0 := SZ_w2.out; have o1 := LO_Rw2.out; have o2 := HI_Rw2.out; have o3 := SZ_w3.out; have o4 := LO_S.out; have o5 := SZ_Y4.out; have o6 := HES.out; have o7 := BL_S.out; have o8 := SZ_w5.out; have o9 := LO_X0.out; have o10 := HI_X0.out; have o11 := SZ_Y6.out; have o12 := HEX0.out; have o13 := BL_X0.out; have o14 := SZ_w7.out; have o15 := LO_G.out; have o16 := SZ_Y8.out; have o17 := HEG.out; have o18 := BL_G.out; have o19 := SZ_w9.out; have o20 := SZ_w11.out; omega) (fun h => by have o0 := SZ_w2.out; have o1 := LO_Rw2.out; have o2 := HI_Rw2.out; have o3 := SZ_w3.out; have o4 := LO_S.out; have o5 := SZ_Y4.out; have o6 := HES.out; have o7 := BL_S.out; have o8 := SZ_w5.out; have o9 := LO_X0.out; have o10 := HI_X0.out; have o11 := SZ_Y6.out; have o12 := HEX0.out; have o13 := BL_X0.out; have o14 := SZ_w7.out; have o15 := LO_G.out; have o16 := SZ_Y8.out; have o17 := HEG.out; have o18 := BL_G.out; have o19 := SZ_w9.out; have o20 := SZ_w11.out; have oc := HI_G.out h; omega)
    have SZ_w12 : Hid (w11.heap.size ≤ w12.heap.size) := hg.size
    have HB_w12 : Hid (Below W.heap.size W w12) := HB_w11.out.trans (below_of_grown hg HB_w11.out.size LW_X0.out)
    clear m0 m1 m2 m3
    clear hg hm Sv7 X0v5 Gv3 HB_w11
    obtain ⟨kk0, hkk0⟩ : ∃ k : Nat, k = 1 + xs0.length := ⟨_, rfl⟩
    have hkb0 : kk0 ≤ 1048577 ∧ 0 < kk0 := by have := HNC.out; omega
    rw [← hkk0]
    clear hkk0
    obtain ⟨hkl, hk0⟩ := hkb0
    have hkn : ¬ (kk0 : Int) < 0 := by omega
    have p0 := Gv4.out.c0
    have p1 := Gv4.out.c1
    have q0 := Sv8.out.c0
    have q1 := Sv8.out.c1
    go_wp2_with fail
    refine (eqObj_same w12 t a_w7 a_w3 g_w7 g_w3 xs.length k_w7 k_w3 xs rfl HXL.out Gv4.out.tx Sv8.out.tx).mono ?_
    rintro e w13 ⟨rfl, hb⟩
    have SZ_w13 : Hid (w12.heap.size ≤ w13.heap.size) := hb.size
    have Sv9 : Hid (OVar BS t a_w3 g_w3 xs.length k_w3 xs w13) := Sv8.out.below hb
    have Gv5 : Hid (OVar BG t a_w7 g_w7 xs.length k_w7 xs w13) := Gv4.out.below hb
    have HB_w13 : Hid (Below W.heap.size W w13) := HB_w12.out.trans (hb.mono HB_w12.out.size)
    clear hb p0 p1 q0 q1 Sv8 Gv4 HB_w12
    clear hkn
    have q0 := Gv5.out.c0
    have q1 := Gv5.out.c1
    go_wp2_with fail
    obtain ⟨rr, htr, hBr, hne⟩ := Gv5.out.block W.heap.size LW_G.out HB_w13.out.size
    have hrG : BG ≠ rr := hne BG Gv5.out.lt (fun h => by have o0 := SZ_w2.out; have o1 := LO_Rw2.out; have o2 := HI_Rw2.out; have o3 := SZ_w3.out; have o4 := LO_S.out; have o5 := SZ_Y4.out; have o6 := HES.out; have o7 := BL_S.out; have o8 := SZ_w5.out; have o9 := LO_X0.out; have o10 := HI_X0.out; have o11 := SZ_Y6.out; have o12 := HEX0.out; have o13 := BL_X0.out; have o14 := SZ_w7.out; have o15 := LO_G.out; have o16 := SZ_Y8.out; have o17 := HEG.out; have o18 := BL_G.out; have o19 := SZ_w9.out; have o20 := SZ_w11.out; have o21 := SZ_w12.out; have o22 := SZ_w13.out; have oc := HI_G.out h; omega)
    refine (markObj_any w13 t a_w7 rr xs.length k_w7 xs 1 rfl htr HXL.out (by omega)).mono ?_
    rintro e w14 ⟨rfl, hg, hm⟩
    have GM : Hid (OVar BG t a_w7 rr xs.length k_w7 (marks 1 xs.length) w14) := Gv5.out.marked hg hrG (marks_len 1 xs.length) hm
    have Sv10 : Hid (OVar BS t a_w3 g_w3 xs.length k_w3 xs w14) := Sv9.out.grown hg (hne BS Sv9.out.lt (fun _ => by have o0 := SZ_w2.out; have o1 := LO_Rw2.out; have o2 := HI_Rw2.out; have o3 := SZ_w3.out; have o4 := LO_S.out; have o5 := SZ_Y4.out; have o6 := HES.out; have o7 := BL_S.out; have o8 := SZ_w5.out; have o9 := LO_X0.out; have o10 := HI_X0.out; have o11 := SZ_Y6.out; have o12 := HEX0.out; have o13 := BL_X0.out; have o14 := SZ_w7.out; have o15 := LO_G.out; have o16 := SZ_Y8.out; have o17 := HEG.out; have o18 := BL_G.out; have o19 := SZ_w9.out; have o20 := SZ_w11.out; have o21 := SZ_w12.out; have o22 := SZ_w13.out; omega)) (fun h => hne g_w3 (Sv9.out.tx.lt h) (fun _ => by have o0 := SZ_w2.out; have o1 := LO_Rw2.out; have o2 := HI_Rw2.out; have o3 := SZ_w3.out; have o4 := LO_S.out; have o5 := SZ_Y4.out; have o6 := HES.out; have o7 := BL_S.out; have o8 := SZ_w5.out; have o9 := LO_X0.out; have o10 := HI_X0.out; have o11 := SZ_Y6.out; have o12 := HEX0.out; have o13 := BL_X0.out; have o14 := SZ_w7.out; have o15 := LO_G.out; have o16 := SZ_Y8.out; have o17 := HEG.out; have o18 := BL_G.out; have o19 := SZ_w9.out; have o20 := SZ_w11.out; have o21 := SZ_w12.out; have o22 := SZ_w13.out; have oc := HI_S.out h; omega))
    have SZ_w14 : Hid (w13.heap.size ≤ w14.heap.size) := hg.size
    have HB_w14 : Hid (Below W.heap.size W w14) := HB_w13.out.trans (below_of_grown hg HB_w13.out.size hBr)
    have Gv6 : Hid (OVar BG t a_w7 rr xs.length k_w7 (marks 1 xs.length) w14) := GM.out
    clear hg hm htr hBr hne hrG GM q0 q1 Sv9 Gv5 HB_w13
    rw [← HKM.out]
    have q0 := Gv6.out.c0
    have q1 := Gv6.out.c1
    go_wp2_with fail
    refine (heldObj_any w14 t a_w7 rr xs.length k_w7 1 Gv6.out.tx HXL.out (by omega)).mono ?_
    rintro e w15 ⟨rfl, hb⟩
    rw [← HKM.out]
    have SZ_w15 : Hid (w14.heap.size ≤ w15.heap.size) := hb.size
    have Sv11 : Hid (OVar BS t a_w3 g_w3 xs.length k_w3 xs w15) := Sv10.out.below hb
    have Gv7 : Hid (OVar BG t a_w7 rr xs.length k_w7 (marks 1 xs.length) w15) := Gv6.out.below hb
    have HB_w15 : Hid (Below W.heap.size W w15) := HB_w14.out.trans (hb.mono HB_w14.out.size)
    clear hb q0 q1 Sv10 Gv6 HB_w14
    obtain ⟨m0, m1, m2, m3⟩ := HK.out w15 HB_w15.out
    go_wp2_with fail
    refine (toConfig_any w15 n01 n02 n03 a0 c0 xs0 HNC.out (HLW.out _ HB_w15.out)).mono ?_
    rintro e w16 ⟨g_w16, rfl, hlo, hhi, hst, hrw, hb⟩
    have LO_Rw16 : Hid (w15.heap.size ≤ g_w16) := hlo
    have HI_Rw16 : Hid (g_w16 < w16.heap.size) := hhi
    have LW_Rw16 : Hid (W.heap.size ≤ g_w16) := by have h1 := HB_w15.out.size; show W.heap.size ≤ g_w16; omega
    have SZ_w16 : Hid (w15.heap.size ≤ w16.heap.size) := hb.size
    have Sv12 : Hid (OVar BS t a_w3 g_w3 xs.length k_w3 xs w16) := Sv11.out.below hb
    have Gv8 : Hid (OVar BG t a_w7 rr xs.length k_w7 (marks 1 xs.length) w16) := Gv7.out.below hb
    have HB_w16 : Hid (Below W.heap.size W w16) := HB_w15.out.trans (hb.mono HB_w15.out.size)
    have Rw16v0 : Hid (Txts w16 (some ⟨g_w16, 0, none⟩) g_w16 xs0) := txts_of hst hrw
    clear hb hlo hhi hst hrw m0 m1 m2 m3 Sv11 Gv7 HB_w15
    go_wp2_with fail
    refine (HI.out w16 _ _ Rw16v0.out.strs).mono ?_
    rintro e w17 ⟨v, rfl, hown, hb⟩
    obtain ⟨a_w17, g_w17, k_w17, rfl, hlo, hi⟩ := ints_of_row hown
    have LO_Hh : Hid (w16.heap.size ≤ g_w17) := hlo
    have HI_Hh : Hid (0 < xs.length → g_w17 < w17.heap.size) := fun h => hi.lt h
    have LW_Hh : Hid (W.heap.size ≤ g_w17) := by have h1 := HB_w16.out.size; show W.heap.size ≤ g_w17; omega
    have SZ_w17 : Hid (w16.heap.size ≤ w17.heap.size) := hb.size
    have Sv13 : Hid (OVar BS t a_w3 g_w3 xs.length k_w3 xs w17) := Sv12.out.below hb
    have Gv9 : Hid (OVar BG t a_w7 rr xs.length k_w7 (marks 1 xs.length) w17) := Gv8.out.below hb
    have Rw16v1 : Hid (Txts w17 (some ⟨g_w16, 0, none⟩) g_w16 xs0) := Rw16v0.out.below hb
    have HB_w17 : Hid (Below W.heap.size W w17) := HB_w16.out.trans (hb.mono HB_w16.out.size)
    have Hhv0 : Hid (Ints w17 a_w17 g_w17 xs) := hi
    clear hb hi hlo hown  Sv12 Gv8 Rw16v0 HB_w16
    obtain ⟨Y18, hY18⟩ : ∃ Y, Y = w17.alloc (.cells #[.int .i64 t, .slice a_w17 xs.length k_w17] 37) := ⟨_, rfl⟩
    have HY18 : Hid (Y18 = w17.alloc (.cells #[.int .i64 t, .slice a_w17 xs.length k_w17] 37)) := hY18
    have hbY18 : Below w17.heap.size w17 Y18 := by rw [hY18]; exact (Below.refl _ _).alloc (Nat.le_refl _) _
    obtain ⟨BHh, hBHh⟩ : ∃ B, B = w17.heap.size := ⟨_, rfl⟩
    have HEHh : Hid (BHh = w17.heap.size) := hBHh
    have Hhbx : Hid (OVar BHh t a_w17 g_w17 xs.length k_w17 xs Y18) := by rw [hY18, hBHh]; exact OVar.start w17 t a_w17 g_w17 xs.length k_w17 xs _ rfl Hhv0.out
    have BL_Hh : Hid (BHh < Y18.heap.size) := Hhbx.out.lt
    have BW_Hh : Hid (W.heap.size ≤ BHh) := by have h1 := HB_w17.out.size; show W.heap.size ≤ BHh; omega
    have SZ_Y18 : Hid (w17.heap.size ≤ Y18.heap.size) := hbY18.size
    have Sv14 : Hid (OVar BS t a_w3 g_w3 xs.length k_w3 xs Y18) := Sv13.out.below hbY18
    have Gv10 : Hid (OVar BG t a_w7 rr xs.length k_w7 (marks 1 xs.length) Y18) := Gv9.out.below hbY18
    have Rw16v2 : Hid (Txts Y18 (some ⟨g_w16, 0, none⟩) g_w16 xs0) := Rw16v1.out.below hbY18
    have HB_Y18 : Hid (Below W.heap.size W Y18) := HB_w17.out.trans (hbY18.mono HB_w17.out.size)
    have Hhv1 : Hid (OVar BHh t a_w17 g_w17 xs.length k_w17 xs Y18) := Hhbx.out
    clear hY18 hbY18 hBHh Hhbx Hhv0 Sv13 Gv9 Rw16v1 HB_w17
    clear Rw16v2
    have p0 := Hhv1.out.c0
    have p1 := Hhv1.out.c1
    have q0 := Sv14.out.c0
    have q1 := Sv14.out.c1
    go_wp2_with (first | (rw [← HY18.out, ← HEHh.out]) | (rw [← HY18.out]))
    try rw [← HY18.out]
    try rw [← HEHh.out]
    refine (eqObj_same Y18 t a_w17 a_w3 g_w17 g_w3 xs.length k_w17 k_w3 xs rfl HXL.out Hhv1.out.tx Sv14.out.tx).mono ?_
    rintro e w19 ⟨rfl, hb⟩
    have SZ_w19 : Hid (Y18.heap.size ≤ w19.heap.size) := hb.size
    have Sv15 : Hid (OVar BS t a_w3 g_w3 xs.length k_w3 xs w19) := Sv14.out.below hb
    have Gv11 : Hid (OVar BG t a_w7 rr xs.length k_w7 (marks 1 xs.length) w19) := Gv10.out.below hb
    have Hhv2 : Hid (OVar BHh t a_w17 g_w17 xs.length k_w17 xs w19) := Hhv1.out.below hb
    have HB_w19 : Hid (Below W.heap.size W w19) := HB_Y18.out.trans (hb.mono HB_Y18.out.size)
    clear hb p0 p1 q0 q1 Sv14 Gv10 Hhv1 HB_Y18
    clear Hhv2
    have q0 := Gv11.out.c0
    have q1 := Gv11.out.c1
    go_wp2_with fail
    refine (heldObj_any w19 t a_w7 rr xs.length k_w7 1 Gv11.out.tx HXL.out (by omega)).mono ?_
    rintro e w20 ⟨rfl, hb⟩
    rw [← HKM.out]
    have SZ_w20 : Hid (w19.heap.size ≤ w20.heap.size) := hb.size
    have Sv16 : Hid (OVar BS t a_w3 g_w3 xs.length k_w3 xs w20) := Sv15.out.below hb
    have Gv12 : Hid (OVar BG t a_w7 rr xs.length k_w7 (marks 1 xs.length) w20) := Gv11.out.below hb
    have HB_w20 : Hid (Below W.heap.size W w20) := HB_w19.out.trans (hb.mono HB_w19.out.size)
    clear hb q0 q1 Sv15 Gv11 HB_w19
    go_wp2
    go_ret
    exact ⟨rfl, HEnd.out _ HB_w20.out⟩

set_option maxRecDepth 100000 in
theorem lifted (os : Os) (started : os.Started) (H : Type) (enc : TypeId × Value → H) :
    ReturnsInHanded {} Try.checked os 4 .any (Rows.fnExactOldObjectSpec.pre6 enc Try.prog Try.f4 Rows.fnExactOldObjectRow.domain false) (Rows.fnExactOldObjectSpec.post enc Try.prog Try.f4 false true false false) := by
  refine returnsInHanded_of_change (C := Try.checked) own started (by kernel_rfl) Try.func4
    (ChangeSpec.witness6 (enc := enc) (C := Try.checked) false ⟨#[], #[.agg #[.int .i64 0, .int .i64 0, .int .i64 0, .slice none 0 0], .string ByteArray.empty, .int .i64 0], []⟩ 8 (by kernel_rfl) (by kernel_rfl) (by kernel_rfl) (by kernel_rfl)) ?_
  intro W base args ds gs before hval0 hW hcnd _
  have hval : ∀ (j : Nat) t v, Try.f4.params[j]? = some t → args[j]? = some v → Value.okWide Try.prog W .any base t v := hval0
  have hW' := hW
  obtain ⟨p, q, hA0, hV, rfl, hfz, hnd⟩ := hW
  have hA : DataW.TrodAll enc Try.prog W 0 (fun _ => true) true Try.f4.params.toList args.toList ds p := hA0
  rw [Try.params4] at hA hval
  obtain ⟨v0, vs_0, d0, ds0, p0, q0, hargs, rfl, rfl, h0, r0⟩ := trodAll_cons hA
  obtain ⟨v1, vs_1, d1, ds1, p1, q1, rfl, rfl, rfl, h1, r1⟩ := trodAll_cons r0
  obtain ⟨v2, vs_2, d2, ds2, p2, q2, rfl, rfl, rfl, h2, r2⟩ := trodAll_cons r1
  obtain ⟨rfl, rfl, rfl⟩ := trodAll_nil r2
  obtain rfl : args = #[v0, v1, v2] := by cases args; simp_all
  obtain ⟨rfl, rfl⟩ := trodVars_none hV
  have k_0 := h0
  have lt_0 : ∀ x ∈ p0, x.block < W.heap.size := by obtain ⟨m, hm⟩ := k_0; exact DataW.trod_lt m _ _ _ hm
  obtain ⟨n01, n02, n03, a0, c0, xs0, rfl, hn01, hn02, hn03, hl0, hm0, hz0⟩ := config_of (hval 0 24 v0 rfl rfl) h0
  obtain ⟨s1, rfl, rfl, rfl, hs1⟩ := Go.ChangeMaps.open_string Try.underlying9 (hval 1 9 v1 rfl rfl) h1
  obtain ⟨x2, rfl, rfl, rfl, hx2⟩ := open_int Try.underlying2 (hval 2 2 v2 rfl rfl) h2
  clear hA0 hval0
  refine (walk n01 n02 n03 a0 c0 xs0 s1 x2 W hn01 hn02 hn03 hl0 hm0 hz0 hs1 hx2).mono fun e W' ⟨he, bel⟩ => ?_
  subst he
  exact ⟨_, rfl, _, _, _, [], _, [], hW', trodAll_mk1 (shut_bool Try.underlying4 _), (trodAll_cons_mk (Below.trod laidOut (by kernel_rfl) (of_decide_eq_true (by kernel_rfl)) k_0 bel lt_0) (trodAll_cons_mk (Go.ChangeMaps.shut_string Try.underlying9 hs1) (trodAll_cons_mk (shut_int Try.underlying2 hx2) trodAll_mk0))), rfl, bel.frame _, fun h => by cases h⟩

theorem over : Rows.fnExactOldObjectRow.holds Try.pinned (OpenSpec.ofChange Rows.fnExactOldObjectSpec) :=
  OpenClaim.holds_of_wide 4 Try.f4 rfl rfl rfl rfl rfl rfl rfl ⟨rfl, rfl, rfl, rfl, rfl⟩ rfl rfl rfl rfl rfl (by kernel_rfl) Try.func4 (by kernel_rfl)
    (of_decide_eq_true (by kernel_rfl)) (by unfold Func.isWrapper; first | (rw [if_pos (by decide +kernel)]; kernel_rfl) | (rw [if_neg (by decide +kernel)]; exact ⟨rfl, rfl⟩))
    (fun os started H enc _ => lifted os started H enc)

theorem proved : Rows.FnExactOldObjectSaid := over
#print axioms proved
end Go.Proofs.Ythmohmfkgoipkaa.fnExactOldObject
