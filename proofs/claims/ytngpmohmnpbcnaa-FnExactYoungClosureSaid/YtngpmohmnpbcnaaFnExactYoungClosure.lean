/-
  FnExactYoungClosure: for every slice of texts, every nursery and every slice of whole numbers the law that holds the program's YoungClosure against the specification's YoungClosure returns true, and the arguments read as before; no condition.
-/
import Derived.Test.YtngpmohmnpbcnaaClImpl
import Derived.Test.YtngpmohmnpbcnaaNurOpen
import Derived.Deep.RegionHeld3
import Derived.ProofKit
import Derived.OpenShut
import Derived.ShutString
import Derived.ChangeOld
import Derived.Below
import Derived.Lib.SmallJoins
namespace Go.Proofs.Ytngpmohmnpbcnaa.fnExactYoungClosure
open Go.ChangeShapes Go.WideShapes Go.ChangeAt Go.RowKit
open kinds ints obj txt nu cl

theorem own : ownKnob Try.prog.godebug = none := by kernel_rfl
theorem laidOut : laidOutB Try.prog = true := by kernel_rfl


set_option linter.unusedVariables false in
set_option maxHeartbeats 4000000 in
set_option maxRecDepth 20000 in
theorem walk (a0 : Option Addr) (c0 : Nat) (xs0 : List ByteArray) (t1 : Int) (b1 : Option Addr) (vc1 : Nat) (vs1 : List Int) (b2 : Option Addr) (vc2 : Nat) (vs2 : List Int) (w : World) (hl0 : Strs w a0 xs0) (hm0 : xs0.length ≤ maxLen) (hz0 : ∀ i (hi : i < xs0.length), xs0[i].size ≤ maxLen) (ht1 : (Lit.int .i64 t1).wf = true) (hk1 : Nums w b1 vs1) (hn1 : vs1.length ≤ maxLen) (hw1 : ∀ x ∈ vs1, (Lit.int .i64 x).wf = true) (hk2 : Nums w b2 vs2) (hn2 : vs2.length ≤ maxLen) (hw2 : ∀ x ∈ vs2, (Lit.int .i64 x).wf = true) :
    Calls Try.prog 3 #[.slice a0 xs0.length c0, .agg #[.int .i64 t1, .slice b1 vs1.length vc1], .slice b2 vs2.length vc2] w fun e w' => e = .returned (.bool true) ∧ Below w.heap.size w w' := by
  obtain ⟨W, hW⟩ : ∃ W, W = w.alloc (.cells #[.int .i64 t1, .slice b1 vs1.length vc1] 25) := ⟨_, rfl⟩
  have HB0 : Hid (Below w.heap.size w W) := by
    have h1 : Below w.heap.size w W := by rw [hW]; exact (Below.refl _ _).alloc (Nat.le_refl _) _
    exact h1
  have hsz : w.heap.size < W.heap.size := by rw [hW]; simp
  have HK : Hid (∀ w', Below W.heap.size W w' → w'.cell? ⟨w.heap.size, 0, none⟩ = some (.int .i64 t1) ∧ w'.cell? ⟨w.heap.size, 1, none⟩ = some (.slice b1 vs1.length vc1)) := fun w' h =>
    ⟨by rw [h.cell (p := ⟨w.heap.size, 0, none⟩) hsz, hW, World.cell?_alloc_new]; rfl, by rw [h.cell (p := ⟨w.heap.size, 1, none⟩) hsz, hW, World.cell?_alloc_new]; rfl⟩
  have HW : Hid (W = w.alloc (.cells #[.int .i64 t1, .slice b1 vs1.length vc1] 25)) := hW
  have HLW : Hid (∀ w', Below W.heap.size W w' → Strs w' a0 xs0) := fun w' h => (hl0.below HB0.out).below h
  have HNW : Hid (∀ w', Below W.heap.size W w' → Nums w' b1 vs1) := fun w' h => (hk1.below HB0.out).below h
  have HEnd : Hid (∀ w', Below W.heap.size W w' → Below w.heap.size w w') := fun w' h => HB0.out.trans (h.mono HB0.out.size)
  have HSZ : Hid (∀ w, Strs w a0 xs0 → Calls _ _ _ w _) := fun w h => szStringS_any w a0 c0 xs0 1048576 (by omega) (by omega) hm0 h hz0
  have HSO : Hid (∀ (left : Int) w, 0 ≤ left → left ≤ 1048576 → Calls _ _ _ w _) := fun left w q1 q2 => szNur_any w t1 b1 vc1 vs1 left q1 q2 hn1
  have HWF : Hid (∀ x ∈ vs1, x < 9223372036854775808) := fun x hx => i64_top (hw1 x hx)
  have HNR : Hid (∀ w', Below W.heap.size W w' → Nums w' b2 vs2) := fun w' h => (hk2.below HB0.out).below h
  have HWR : Hid (∀ x ∈ vs2, x < 9223372036854775808) := fun x hx => i64_top (hw2 x hx)
  have hn2b := hn2
  unfold maxLen at hn2b
  clear hW hl0 hk1 hk2 hz0 hw1 hw2 ht1 hm0 hn1 hn2
  by_cases hbig : (1048576 : Int) < (vs2.length : Int)
  · go_enter Try.func3, Try.ntmps3
    go_wp2_with (rw [← HW.out])
    go_ret
    exact ⟨rfl, HB0.out⟩
  have HNV2 : Hid (vs2.length ≤ 1048576) := by show vs2.length ≤ _; omega
  have hv2b : vs2.length ≤ 1048576 := HNV2.out
  clear hn2b
  go_enter Try.func3, Try.ntmps3
  go_wp2_with fail
  rw [← HW.out]
  refine (HSZ.out W (HLW.out W (Below.refl _ _))).mono ?_
  rintro e w1 ⟨r, rfl, hr0, hr1, hr2, hw⟩
  have HB_w1 : Hid (Below W.heap.size W w1) := by first | exact hw | (subst hw; exact Below.refl _ _)
  have HR1 : Hid (0 ≤ r → xs0.length ≤ 1048576 ∧ ∀ i (hi : i < xs0.length), xs0[i].size ≤ 1048576) := hr2
  clear hr2 hw
  by_cases hneg : r < 0
  · go_wp2
    go_ret
    exact ⟨rfl, HEnd.out _ HB_w1.out⟩
  obtain ⟨hn, hz⟩ := HR1.out (by omega)
  have HZ : Hid (∀ i (hi : i < xs0.length), xs0[i].size ≤ 1048576) := hz
  have HNX : Hid (xs0.length ≤ 1048576) := hn
  clear hz HR1
  obtain ⟨m0, m1⟩ := HK.out w1 HB_w1.out
  go_wp2_with fail
  refine (HSO.out r w1 (by omega) hr1).mono ?_
  rintro e w2 ⟨r2, rfl, hs0, hs1, hs2, hb2⟩
  have HB_w2 : Hid (Below W.heap.size W w2) := HB_w1.out.trans (hb2.mono HB_w1.out.size)
  have HR2 : Hid (0 ≤ r2 → vs1.length ≤ 1048576) := hs2
  clear hs2 hb2 m0 m1
  by_cases hneg2 : r2 < 0
  · go_wp2
    go_ret
    exact ⟨rfl, HEnd.out _ HB_w2.out⟩
  have hnv := HR2.out (by omega)
  have HNV : Hid (vs1.length ≤ 1048576) := hnv
  have HS : Hid (∀ (w : World) (a0' : Option Addr) (k0' : Nat) (a1' : Option Addr) (a2' : Option Addr) (k2' : Nat), Strs w a0' xs0 → Nums w a1' vs1 → Nums w a2' vs2 → _) := fun w a0' k0' a1' a2' k2' q0 q1 q2 => spec_yclos w a0' k0' xs0 t1 a1' vs1.length vs1.length vs1 a2' k2' vs2 rfl HNX.out q0 HZ.out HNV.out (Nat.le_refl _) q1 HWF.out q2 HNV2.out
  have HI : Hid (∀ (w : World) (a0' : Option Addr) (k0' : Nat) (a1' : Option Addr) (a2' : Option Addr) (k2' : Nat), Strs w a0' xs0 → Nums w a1' vs1 → Nums w a2' vs2 → _) := fun w a0' k0' a1' a2' k2' q0 q1 q2 => impl_yclos w a0' k0' xs0 t1 a1' vs1.length vs1.length vs1 a2' k2' vs2 rfl HNX.out q0 HZ.out HNV.out (Nat.le_refl _) q1 HWF.out q2 HNV2.out HWR.out
  have hbnd : (clL xs0 t1 vs1 vs2).length ≤ 1048576 := by have := clL_len xs0 t1 vs1 vs2; omega
  unfold AOut at HS HI
  have hxl : (clL xs0 t1 vs1 vs2).length ≤ 1048576 := hbnd
  generalize clL xs0 t1 vs1 vs2 = xs at HS HI hxl
  have HXL : Hid (xs.length ≤ 1048576) := hxl
  obtain ⟨km, hkm⟩ : ∃ km : Int, km = ((1 + xs.length : Nat) : Int) := ⟨_, rfl⟩
  have HKM : Hid (km = ((1 + xs.length : Nat) : Int)) := hkm
  have hq0 : (km != km) = false := by simp
  have hq1 : ¬ km < 0 := by omega
  clear hxl hbnd hkm
  generalize rootsB xs0 t1 vs1 vs2 = rb at HS HI
  have hqn0 : (rb != rb) = false := by simp
  clear hr0 hr1 hs0 hs1 hneg HR2 hn hnv hbig hv2b
  have hacc : Below w2.heap.size w2 w2.drew := (Below.refl _ _).drew
  have HCU_w6 : Hid (∀ w', Below w2.heap.size w2 w' → Below W.heap.size W w') := fun w' h => HB_w2.out.trans (h.mono HB_w2.out.size)
  obtain ⟨m0, m1⟩ := HK.out w2 HB_w2.out
  go_wp2_with fail
  go_region_held3 (fun w' => w'.cell? ⟨w.heap.size, 0, none⟩ = some (.int .i64 t1) ∧ w'.cell? ⟨w.heap.size, 1, none⟩ = some (.slice b1 vs1.length vc1)) (first | with_reducible exact HK.out _ (HCU_w6.out _ hacc)) (first | (go_at_call 11; refine (toStringS_any _ a0 c0 xs0 HNX.out (HLW.out _ (HCU_w6.out _ hacc))).mono ?_; rintro e w3 ⟨gS, rfl, hgX, hgY, hlS, hrX, hbX⟩; have hac2 : Below w2.heap.size w2 w3 := hacc.trans (hbX.mono hacc.size); clear hacc hbX; have hacc := hac2; clear hac2; clear hgX hgY hrX) | (go_at_call 12; refine (toNur_any _ t1 b1 vc1 vs1 HNV.out (HNW.out _ (HCU_w6.out _ hacc))).mono ?_; rintro e w4 ⟨gO, rfl, hgX, hgY, hlO, hbX⟩; have hlS2 := hlS.below hbX; clear hlS; have hlS := hlS2; clear hlS2; have hac2 : Below w2.heap.size w2 w4 := hacc.trans (hbX.mono hacc.size); clear hacc hbX; have hacc := hac2; clear hac2; clear hgX hgY) | (go_at_call 13; refine (toInt64S_any _ b2 vc2 vs2 HNV2.out (HNR.out _ (HCU_w6.out _ hacc))).mono ?_; rintro e w5 ⟨gN, rfl, hgX, hgY, hlN, hbX⟩; have hlS2 := hlS.below hbX; have hlO2 := hlO.below hbX; clear hlS hlO; have hlS := hlS2; have hlO := hlO2; clear hlS2 hlO2; have hac2 : Below w2.heap.size w2 w5 := hacc.trans (hbX.mono hacc.size); clear hacc hbX; have hacc := hac2; clear hac2; clear hgX hgY) | (go_at_call 10; refine (HS.out _ _ _ _ _ _ hlS hlO.nums hlN.nums).mono ?_; rintro e w6 ⟨a_w6, g_w6, k_w6, rfl, hgX, hinR, hbX⟩; have hgT : w2.heap.size ≤ g_w6 := Nat.le_trans hacc.size hgX; have hac2 : Below w2.heap.size w2 w6 := hacc.trans (hbX.mono hacc.size); clear hacc hbX; have hacc := hac2; clear hac2; clear hgX hlS hlO hlN))
  all_goals
    have LO_S : Hid (w2.heap.size ≤ g_w6) := hgT
    have HI_S : Hid (0 < xs.length → g_w6 < w6.heap.size) := fun h => hinR.lt h
    have LW_S : Hid (W.heap.size ≤ g_w6) := by have h1 := HB_w2.out.size; show W.heap.size ≤ g_w6; omega
    have SZ_w6 : Hid (w2.heap.size ≤ w6.heap.size) := hacc.size
    have HB_w6 : Hid (Below W.heap.size W w6) := HB_w2.out.trans (hacc.mono HB_w2.out.size)
    have Sv0 : Hid (Ints w6 a_w6 g_w6 xs) := hinR
    clear hinR hgT
    clear hacc m0 m1 HCU_w6 HB_w2
    go_wp2_with fail
    refine (toStringS_any w6 a0 c0 xs0 HNX.out (HLW.out _ HB_w6.out)).mono ?_
    rintro e w7 ⟨g_w7, rfl, hlo, hhi, hst, hrw, hb⟩
    have LO_X0 : Hid (w6.heap.size ≤ g_w7) := hlo
    have HI_X0 : Hid (g_w7 < w7.heap.size) := hhi
    have LW_X0 : Hid (W.heap.size ≤ g_w7) := by have h1 := HB_w6.out.size; show W.heap.size ≤ g_w7; omega
    have SZ_w7 : Hid (w6.heap.size ≤ w7.heap.size) := hb.size
    have Sv1 : Hid (Ints w7 a_w6 g_w6 xs) := Sv0.out.below hb
    have HB_w7 : Hid (Below W.heap.size W w7) := HB_w6.out.trans (hb.mono HB_w6.out.size)
    have X0v0 : Hid (Txts w7 (some ⟨g_w7, 0, none⟩) g_w7 xs0) := txts_of hst hrw
    clear hb hlo hhi hst hrw Sv0 HB_w6
    obtain ⟨m0, m1⟩ := HK.out w7 HB_w7.out
    go_wp2_with fail
    refine (toNur_any w7 t1 b1 vc1 vs1 HNV.out (HNW.out _ HB_w7.out)).mono ?_
    rintro e w8 ⟨g_w8, rfl, hlo, hhi, hin, hb⟩
    have LO_X1 : Hid (w7.heap.size ≤ g_w8) := hlo
    have HI_X1 : Hid (g_w8 < w8.heap.size) := hhi
    have LW_X1 : Hid (W.heap.size ≤ g_w8) := by have h1 := HB_w7.out.size; show W.heap.size ≤ g_w8; omega
    have SZ_w8 : Hid (w7.heap.size ≤ w8.heap.size) := hb.size
    have Sv2 : Hid (Ints w8 a_w6 g_w6 xs) := Sv1.out.below hb
    have X0v1 : Hid (Txts w8 (some ⟨g_w7, 0, none⟩) g_w7 xs0) := X0v0.out.below hb
    have HB_w8 : Hid (Below W.heap.size W w8) := HB_w7.out.trans (hb.mono HB_w7.out.size)
    obtain ⟨Y9, hY9⟩ : ∃ Y, Y = w8.alloc (.cells #[.int .i64 t1, .slice (some ⟨g_w8, 0, none⟩) vs1.length vs1.length] 31) := ⟨_, rfl⟩
    have HY9 : Hid (Y9 = w8.alloc (.cells #[.int .i64 t1, .slice (some ⟨g_w8, 0, none⟩) vs1.length vs1.length] 31)) := hY9
    have hbY9 : Below w8.heap.size w8 Y9 := by rw [hY9]; exact (Below.refl _ _).alloc (Nat.le_refl _) _
    obtain ⟨BX1, hBX1⟩ : ∃ B, B = w8.heap.size := ⟨_, rfl⟩
    have HEX1 : Hid (BX1 = w8.heap.size) := hBX1
    have X1bx : Hid (OVar BX1 t1 (some ⟨g_w8, 0, none⟩) g_w8 vs1.length vs1.length vs1 Y9) := by rw [hY9, hBX1]; exact OVar.start w8 t1 _ g_w8 _ _ vs1 _ rfl hin
    have BL_X1 : Hid (BX1 < Y9.heap.size) := X1bx.out.lt
    have BW_X1 : Hid (W.heap.size ≤ BX1) := by have h1 := HB_w8.out.size; show W.heap.size ≤ BX1; omega
    have SZ_Y9 : Hid (w8.heap.size ≤ Y9.heap.size) := hbY9.size
    have Sv3 : Hid (Ints Y9 a_w6 g_w6 xs) := Sv2.out.below hbY9
    have X0v2 : Hid (Txts Y9 (some ⟨g_w7, 0, none⟩) g_w7 xs0) := X0v1.out.below hbY9
    have HB_Y9 : Hid (Below W.heap.size W Y9) := HB_w8.out.trans (hbY9.mono HB_w8.out.size)
    have X1v0 : Hid (OVar BX1 t1 (some ⟨g_w8, 0, none⟩) g_w8 vs1.length vs1.length vs1 Y9) := X1bx.out
    clear hY9 hbY9 hBX1 X1bx hb hlo hhi hin m0 m1 Sv1 X0v0 HB_w7 Sv2 X0v1 HB_w8
    go_wp2_with (first | (rw [← HY9.out, ← HEX1.out]) | (rw [← HY9.out]))
    try rw [← HY9.out]
    try rw [← HEX1.out]
    refine (toInt64S_any Y9 b2 vc2 vs2 HNV2.out (HNR.out _ HB_Y9.out)).mono ?_
    rintro e w10 ⟨g_w10, rfl, hlo, hhi, hi, hb⟩
    have LO_X2 : Hid (Y9.heap.size ≤ g_w10) := hlo
    have HI_X2 : Hid (g_w10 < w10.heap.size) := hhi
    have LW_X2 : Hid (W.heap.size ≤ g_w10) := by have h1 := HB_Y9.out.size; show W.heap.size ≤ g_w10; omega
    have SZ_w10 : Hid (Y9.heap.size ≤ w10.heap.size) := hb.size
    have Sv4 : Hid (Ints w10 a_w6 g_w6 xs) := Sv3.out.below hb
    have X0v3 : Hid (Txts w10 (some ⟨g_w7, 0, none⟩) g_w7 xs0) := X0v2.out.below hb
    have X1v1 : Hid (OVar BX1 t1 (some ⟨g_w8, 0, none⟩) g_w8 vs1.length vs1.length vs1 w10) := X1v0.out.below hb
    have HB_w10 : Hid (Below W.heap.size W w10) := HB_Y9.out.trans (hb.mono HB_Y9.out.size)
    have X2v0 : Hid (Ints w10 (some ⟨g_w10, 0, none⟩) g_w10 vs2) := hi
    clear hb hi hlo hhi Sv3 X0v2 X1v0 HB_Y9
    have q0 := X1v1.out.c0
    have q1 := X1v1.out.c1
    go_wp2_with fail
    refine (HI.out w10 _ _ _ _ _ X0v3.out.strs X1v1.out.tx.nums X2v0.out.nums).mono ?_
    rintro e w11 ⟨a_w11, g_w11, k_w11, rfl, hlo, hi, hb⟩
    have LO_G : Hid (w10.heap.size ≤ g_w11) := hlo
    have HI_G : Hid (0 < xs.length → g_w11 < w11.heap.size) := fun h => hi.lt h
    have LW_G : Hid (W.heap.size ≤ g_w11) := by have h1 := HB_w10.out.size; show W.heap.size ≤ g_w11; omega
    have SZ_w11 : Hid (w10.heap.size ≤ w11.heap.size) := hb.size
    have Sv5 : Hid (Ints w11 a_w6 g_w6 xs) := Sv4.out.below hb
    have X0v4 : Hid (Txts w11 (some ⟨g_w7, 0, none⟩) g_w7 xs0) := X0v3.out.below hb
    have X1v2 : Hid (OVar BX1 t1 (some ⟨g_w8, 0, none⟩) g_w8 vs1.length vs1.length vs1 w11) := X1v1.out.below hb
    have X2v1 : Hid (Ints w11 (some ⟨g_w10, 0, none⟩) g_w10 vs2) := X2v0.out.below hb
    have HB_w11 : Hid (Below W.heap.size W w11) := HB_w10.out.trans (hb.mono HB_w10.out.size)
    have Gv0 : Hid (Ints w11 a_w11 g_w11 xs) := hi
    clear hb hi hlo q0 q1 Sv4 X0v3 X1v1 X2v0 HB_w10
    go_wp2_with fail
    refine (eqInt64S_same w11 a_w11 a_w6 g_w11 g_w6 k_w11 k_w6 xs HXL.out Gv0.out Sv5.out).mono ?_
    rintro e w12 ⟨rfl, hb⟩
    have SZ_w12 : Hid (w11.heap.size ≤ w12.heap.size) := hb.size
    have Sv6 : Hid (Ints w12 a_w6 g_w6 xs) := Sv5.out.below hb
    have X0v5 : Hid (Txts w12 (some ⟨g_w7, 0, none⟩) g_w7 xs0) := X0v4.out.below hb
    have X1v3 : Hid (OVar BX1 t1 (some ⟨g_w8, 0, none⟩) g_w8 vs1.length vs1.length vs1 w12) := X1v2.out.below hb
    have X2v2 : Hid (Ints w12 (some ⟨g_w10, 0, none⟩) g_w10 vs2) := X2v1.out.below hb
    have Gv1 : Hid (Ints w12 a_w11 g_w11 xs) := Gv0.out.below hb
    have HB_w12 : Hid (Below W.heap.size W w12) := HB_w11.out.trans (hb.mono HB_w11.out.size)
    clear hb Sv5 X0v4 X1v2 X2v1 Gv0 HB_w11
    go_wp2_with fail
    refine (toStringS_any w12 a0 c0 xs0 HNX.out (HLW.out _ HB_w12.out)).mono ?_
    rintro e w13 ⟨g_w13, rfl, hlo, hhi, hst, hrw, hb⟩
    have LO_T0 : Hid (w12.heap.size ≤ g_w13) := hlo
    have HI_T0 : Hid (g_w13 < w13.heap.size) := hhi
    have LW_T0 : Hid (W.heap.size ≤ g_w13) := by have h1 := HB_w12.out.size; show W.heap.size ≤ g_w13; omega
    have SZ_w13 : Hid (w12.heap.size ≤ w13.heap.size) := hb.size
    have Sv7 : Hid (Ints w13 a_w6 g_w6 xs) := Sv6.out.below hb
    have X0v6 : Hid (Txts w13 (some ⟨g_w7, 0, none⟩) g_w7 xs0) := X0v5.out.below hb
    have X1v4 : Hid (OVar BX1 t1 (some ⟨g_w8, 0, none⟩) g_w8 vs1.length vs1.length vs1 w13) := X1v3.out.below hb
    have X2v3 : Hid (Ints w13 (some ⟨g_w10, 0, none⟩) g_w10 vs2) := X2v2.out.below hb
    have Gv2 : Hid (Ints w13 a_w11 g_w11 xs) := Gv1.out.below hb
    have HB_w13 : Hid (Below W.heap.size W w13) := HB_w12.out.trans (hb.mono HB_w12.out.size)
    have T0v0 : Hid (Txts w13 (some ⟨g_w13, 0, none⟩) g_w13 xs0) := txts_of hst hrw
    clear hb hlo hhi hst hrw Sv6 X0v5 X1v3 X2v2 Gv1 HB_w12
    go_wp2_with fail
    refine (eqStringS_same w13 _ _ _ _ xs0 HNX.out X0v6.out.strs T0v0.out.strs).mono ?_
    rintro e w14 ⟨rfl, hb⟩
    have SZ_w14 : Hid (w13.heap.size ≤ w14.heap.size) := hb.size
    have Sv8 : Hid (Ints w14 a_w6 g_w6 xs) := Sv7.out.below hb
    have X0v7 : Hid (Txts w14 (some ⟨g_w7, 0, none⟩) g_w7 xs0) := X0v6.out.below hb
    have X1v5 : Hid (OVar BX1 t1 (some ⟨g_w8, 0, none⟩) g_w8 vs1.length vs1.length vs1 w14) := X1v4.out.below hb
    have X2v4 : Hid (Ints w14 (some ⟨g_w10, 0, none⟩) g_w10 vs2) := X2v3.out.below hb
    have Gv3 : Hid (Ints w14 a_w11 g_w11 xs) := Gv2.out.below hb
    have T0v1 : Hid (Txts w14 (some ⟨g_w13, 0, none⟩) g_w13 xs0) := T0v0.out.below hb
    have HB_w14 : Hid (Below W.heap.size W w14) := HB_w13.out.trans (hb.mono HB_w13.out.size)
    clear hb Sv7 X0v6 X1v4 X2v3 Gv2 T0v0 HB_w13
    clear T0v1
    have hacc : Below w14.heap.size w14 w14.drew := (Below.refl _ _).drew
    have HXK : Hid (OVar BX1 t1 (some ⟨g_w8, 0, none⟩) g_w8 vs1.length vs1.length vs1 w14) := X1v5.out
    have HCK : Hid (∀ w', Below w14.heap.size w14 w' → (w'.cell? ⟨w.heap.size, 0, none⟩ = some (.int .i64 t1) ∧ w'.cell? ⟨w.heap.size, 1, none⟩ = some (.slice b1 vs1.length vc1)) ∧ w'.cell? ⟨BX1, 0, none⟩ = some (.int .i64 t1) ∧ w'.cell? ⟨BX1, 1, none⟩ = some (.slice (some ⟨g_w8, 0, none⟩) vs1.length vs1.length)) := fun w' h => ⟨HK.out w' (HB_w14.out.trans (h.mono HB_w14.out.size)), (HXK.out.below h).c0, (HXK.out.below h).c1⟩
    have HNU2 : Hid (∀ w', Below w14.heap.size w14 w' → Nums w' b1 vs1) := fun w' h => HNW.out _ (HB_w14.out.trans (h.mono HB_w14.out.size))
    obtain ⟨⟨m0, m1⟩, q0, q1⟩ := HCK.out w14 (Below.refl _ _)
    go_wp2_with fail
    go_region_held3 (fun w' => (w'.cell? ⟨w.heap.size, 0, none⟩ = some (.int .i64 t1) ∧ w'.cell? ⟨w.heap.size, 1, none⟩ = some (.slice b1 vs1.length vc1)) ∧ w'.cell? ⟨BX1, 0, none⟩ = some (.int .i64 t1) ∧ w'.cell? ⟨BX1, 1, none⟩ = some (.slice (some ⟨g_w8, 0, none⟩) vs1.length vs1.length)) (first | with_reducible exact HCK.out _ hacc) (first | (go_at_call 12; refine (toNur_any _ t1 b1 vc1 vs1 HNV.out (HNU2.out _ hacc)).mono ?_; rintro e w15 ⟨gO, rfl, hgX, hgY, hlO, hbX⟩; have hac2 : Below w14.heap.size w14 w15 := hacc.trans (hbX.mono hacc.size); clear hacc hbX; have hacc := hac2; clear hac2; clear hgX hgY) | (go_at_call 17; refine (eqNur_same w15 t1 _ _ g_w8 gO vs1.length vs1.length vs1.length vs1 rfl HNV.out (HXK.out.below hacc).tx hlO).mono ?_; rintro e w16 ⟨rfl, hbX⟩; have hac2 : Below w14.heap.size w14 w16 := hacc.trans (hbX.mono hacc.size); clear hacc hbX; have hacc := hac2; clear hac2; clear hlO))
    all_goals
      have SZ_w16 : Hid (w14.heap.size ≤ w16.heap.size) := hacc.size
      have Sv9 : Hid (Ints w16 a_w6 g_w6 xs) := Sv8.out.below hacc
      have X0v8 : Hid (Txts w16 (some ⟨g_w7, 0, none⟩) g_w7 xs0) := X0v7.out.below hacc
      have X1v6 : Hid (OVar BX1 t1 (some ⟨g_w8, 0, none⟩) g_w8 vs1.length vs1.length vs1 w16) := X1v5.out.below hacc
      have X2v5 : Hid (Ints w16 (some ⟨g_w10, 0, none⟩) g_w10 vs2) := X2v4.out.below hacc
      have Gv4 : Hid (Ints w16 a_w11 g_w11 xs) := Gv3.out.below hacc
      have HB_w16 : Hid (Below W.heap.size W w16) := HB_w14.out.trans (hacc.mono HB_w14.out.size)
      clear hacc m0 m1 q0 q1 HXK HCK HNU2 Sv8 X0v7 X1v5 X2v4 Gv3 HB_w14
      go_wp2_with fail
      refine (toInt64S_any w16 b2 vc2 vs2 HNV2.out (HNR.out _ HB_w16.out)).mono ?_
      rintro e w17 ⟨g_w17, rfl, hlo, hhi, hi, hb⟩
      have LO_T2 : Hid (w16.heap.size ≤ g_w17) := hlo
      have HI_T2 : Hid (g_w17 < w17.heap.size) := hhi
      have LW_T2 : Hid (W.heap.size ≤ g_w17) := by have h1 := HB_w16.out.size; show W.heap.size ≤ g_w17; omega
      have SZ_w17 : Hid (w16.heap.size ≤ w17.heap.size) := hb.size
      have Sv10 : Hid (Ints w17 a_w6 g_w6 xs) := Sv9.out.below hb
      have X0v9 : Hid (Txts w17 (some ⟨g_w7, 0, none⟩) g_w7 xs0) := X0v8.out.below hb
      have X1v7 : Hid (OVar BX1 t1 (some ⟨g_w8, 0, none⟩) g_w8 vs1.length vs1.length vs1 w17) := X1v6.out.below hb
      have X2v6 : Hid (Ints w17 (some ⟨g_w10, 0, none⟩) g_w10 vs2) := X2v5.out.below hb
      have Gv5 : Hid (Ints w17 a_w11 g_w11 xs) := Gv4.out.below hb
      have HB_w17 : Hid (Below W.heap.size W w17) := HB_w16.out.trans (hb.mono HB_w16.out.size)
      have T2v0 : Hid (Ints w17 (some ⟨g_w17, 0, none⟩) g_w17 vs2) := hi
      clear hb hi hlo hhi Sv9 X0v8 X1v6 X2v5 Gv4 HB_w16
      go_wp2_with fail
      refine (eqInt64S_same w17 (some ⟨g_w10, 0, none⟩) (some ⟨g_w17, 0, none⟩) g_w10 g_w17 vs2.length vs2.length vs2 HNV2.out X2v6.out T2v0.out).mono ?_
      rintro e w18 ⟨rfl, hb⟩
      have SZ_w18 : Hid (w17.heap.size ≤ w18.heap.size) := hb.size
      have Sv11 : Hid (Ints w18 a_w6 g_w6 xs) := Sv10.out.below hb
      have X0v10 : Hid (Txts w18 (some ⟨g_w7, 0, none⟩) g_w7 xs0) := X0v9.out.below hb
      have X1v8 : Hid (OVar BX1 t1 (some ⟨g_w8, 0, none⟩) g_w8 vs1.length vs1.length vs1 w18) := X1v7.out.below hb
      have X2v7 : Hid (Ints w18 (some ⟨g_w10, 0, none⟩) g_w10 vs2) := X2v6.out.below hb
      have Gv6 : Hid (Ints w18 a_w11 g_w11 xs) := Gv5.out.below hb
      have T2v1 : Hid (Ints w18 (some ⟨g_w17, 0, none⟩) g_w17 vs2) := T2v0.out.below hb
      have HB_w18 : Hid (Below W.heap.size W w18) := HB_w17.out.trans (hb.mono HB_w17.out.size)
      clear hb Sv10 X0v9 X1v7 X2v6 Gv5 T2v0 HB_w17
      clear T2v1
      go_wp2_with fail
      refine (markStringS_any w18 _ g_w7 xs0.length _ xs0 1 rfl X0v10.out HNX.out (by omega) (by omega)).mono ?_
      rintro e w19 ⟨rfl, hg, hm⟩
      have Sv12 : Hid (Ints w19 a_w6 g_w6 xs) := Sv11.out.grown2 hg (fun h => by have o0 := SZ_w6.out; have o1 := LO_S.out; have o2 := SZ_w7.out; have o3 := LO_X0.out; have o4 := HI_X0.out; have o5 := SZ_w8.out; have o6 := LO_X1.out; have o7 := HI_X1.out; have o8 := SZ_Y9.out; have o9 := HEX1.out; have o10 := BL_X1.out; have o11 := SZ_w10.out; have o12 := LO_X2.out; have o13 := HI_X2.out; have o14 := SZ_w11.out; have o15 := LO_G.out; have o16 := SZ_w12.out; have o17 := SZ_w13.out; have o18 := LO_T0.out; have o19 := HI_T0.out; have o20 := SZ_w14.out; have o21 := SZ_w16.out; have o22 := SZ_w17.out; have o23 := LO_T2.out; have o24 := HI_T2.out; have o25 := SZ_w18.out; have oc := HI_S.out h; omega)
      have X1v9 : Hid (OVar BX1 t1 (some ⟨g_w8, 0, none⟩) g_w8 vs1.length vs1.length vs1 w19) := X1v8.out.grown hg (by have o0 := SZ_w6.out; have o1 := LO_S.out; have o2 := SZ_w7.out; have o3 := LO_X0.out; have o4 := HI_X0.out; have o5 := SZ_w8.out; have o6 := LO_X1.out; have o7 := HI_X1.out; have o8 := SZ_Y9.out; have o9 := HEX1.out; have o10 := BL_X1.out; have o11 := SZ_w10.out; have o12 := LO_X2.out; have o13 := HI_X2.out; have o14 := SZ_w11.out; have o15 := LO_G.out; have o16 := SZ_w12.out; have o17 := SZ_w13.out; have o18 := LO_T0.out; have o19 := HI_T0.out; have o20 := SZ_w14.out; have o21 := SZ_w16.out; have o22 := SZ_w17.out; have o23 := LO_T2.out; have o24 := HI_T2.out; have o25 := SZ_w18.out; omega) (fun h => by have o0 := SZ_w6.out; have o1 := LO_S.out; have o2 := SZ_w7.out; have o3 := LO_X0.out; have o4 := HI_X0.out; have o5 := SZ_w8.out; have o6 := LO_X1.out; have o7 := HI_X1.out; have o8 := SZ_Y9.out; have o9 := HEX1.out; have o10 := BL_X1.out; have o11 := SZ_w10.out; have o12 := LO_X2.out; have o13 := HI_X2.out; have o14 := SZ_w11.out; have o15 := LO_G.out; have o16 := SZ_w12.out; have o17 := SZ_w13.out; have o18 := LO_T0.out; have o19 := HI_T0.out; have o20 := SZ_w14.out; have o21 := SZ_w16.out; have o22 := SZ_w17.out; have o23 := LO_T2.out; have o24 := HI_T2.out; have o25 := SZ_w18.out; omega)
      have X2v8 : Hid (Ints w19 (some ⟨g_w10, 0, none⟩) g_w10 vs2) := X2v7.out.grown2 hg (fun h => by have o0 := SZ_w6.out; have o1 := LO_S.out; have o2 := SZ_w7.out; have o3 := LO_X0.out; have o4 := HI_X0.out; have o5 := SZ_w8.out; have o6 := LO_X1.out; have o7 := HI_X1.out; have o8 := SZ_Y9.out; have o9 := HEX1.out; have o10 := BL_X1.out; have o11 := SZ_w10.out; have o12 := LO_X2.out; have o13 := HI_X2.out; have o14 := SZ_w11.out; have o15 := LO_G.out; have o16 := SZ_w12.out; have o17 := SZ_w13.out; have o18 := LO_T0.out; have o19 := HI_T0.out; have o20 := SZ_w14.out; have o21 := SZ_w16.out; have o22 := SZ_w17.out; have o23 := LO_T2.out; have o24 := HI_T2.out; have o25 := SZ_w18.out; omega)
      have Gv7 : Hid (Ints w19 a_w11 g_w11 xs) := Gv6.out.grown2 hg (fun h => by have o0 := SZ_w6.out; have o1 := LO_S.out; have o2 := SZ_w7.out; have o3 := LO_X0.out; have o4 := HI_X0.out; have o5 := SZ_w8.out; have o6 := LO_X1.out; have o7 := HI_X1.out; have o8 := SZ_Y9.out; have o9 := HEX1.out; have o10 := BL_X1.out; have o11 := SZ_w10.out; have o12 := LO_X2.out; have o13 := HI_X2.out; have o14 := SZ_w11.out; have o15 := LO_G.out; have o16 := SZ_w12.out; have o17 := SZ_w13.out; have o18 := LO_T0.out; have o19 := HI_T0.out; have o20 := SZ_w14.out; have o21 := SZ_w16.out; have o22 := SZ_w17.out; have o23 := LO_T2.out; have o24 := HI_T2.out; have o25 := SZ_w18.out; have oc := HI_G.out h; omega)
      have SZ_w19 : Hid (w18.heap.size ≤ w19.heap.size) := hg.size
      have HB_w19 : Hid (Below W.heap.size W w19) := HB_w18.out.trans (below_of_grown hg HB_w18.out.size LW_X0.out)
      clear hg hm Sv11 X0v10 X1v8 X2v7 Gv6 HB_w18
      obtain ⟨kk0, hkk0⟩ : ∃ k : Nat, k = 1 + xs0.length := ⟨_, rfl⟩
      have hkb0 : kk0 ≤ 1048577 ∧ 0 < kk0 := by have := HNX.out; omega
      rw [← hkk0]
      clear hkk0
      obtain ⟨hkl0, hkp0⟩ := hkb0
      have q0 := X1v9.out.c0
      have q1 := X1v9.out.c1
      go_wp2_with fail
      refine (markNur_any w19 t1 _ g_w8 vs1.length vs1.length vs1 kk0 rfl X1v9.out.tx HNV.out (by omega)).mono ?_
      rintro e w20 ⟨rfl, hg, hm⟩
      have Sv13 : Hid (Ints w20 a_w6 g_w6 xs) := Sv12.out.grown2 hg (fun h => by have o0 := SZ_w6.out; have o1 := LO_S.out; have o2 := SZ_w7.out; have o3 := LO_X0.out; have o4 := HI_X0.out; have o5 := SZ_w8.out; have o6 := LO_X1.out; have o7 := HI_X1.out; have o8 := SZ_Y9.out; have o9 := HEX1.out; have o10 := BL_X1.out; have o11 := SZ_w10.out; have o12 := LO_X2.out; have o13 := HI_X2.out; have o14 := SZ_w11.out; have o15 := LO_G.out; have o16 := SZ_w12.out; have o17 := SZ_w13.out; have o18 := LO_T0.out; have o19 := HI_T0.out; have o20 := SZ_w14.out; have o21 := SZ_w16.out; have o22 := SZ_w17.out; have o23 := LO_T2.out; have o24 := HI_T2.out; have o25 := SZ_w18.out; have o26 := SZ_w19.out; have oc := HI_S.out h; omega)
      have X2v9 : Hid (Ints w20 (some ⟨g_w10, 0, none⟩) g_w10 vs2) := X2v8.out.grown2 hg (fun h => by have o0 := SZ_w6.out; have o1 := LO_S.out; have o2 := SZ_w7.out; have o3 := LO_X0.out; have o4 := HI_X0.out; have o5 := SZ_w8.out; have o6 := LO_X1.out; have o7 := HI_X1.out; have o8 := SZ_Y9.out; have o9 := HEX1.out; have o10 := BL_X1.out; have o11 := SZ_w10.out; have o12 := LO_X2.out; have o13 := HI_X2.out; have o14 := SZ_w11.out; have o15 := LO_G.out; have o16 := SZ_w12.out; have o17 := SZ_w13.out; have o18 := LO_T0.out; have o19 := HI_T0.out; have o20 := SZ_w14.out; have o21 := SZ_w16.out; have o22 := SZ_w17.out; have o23 := LO_T2.out; have o24 := HI_T2.out; have o25 := SZ_w18.out; have o26 := SZ_w19.out; omega)
      have Gv8 : Hid (Ints w20 a_w11 g_w11 xs) := Gv7.out.grown2 hg (fun h => by have o0 := SZ_w6.out; have o1 := LO_S.out; have o2 := SZ_w7.out; have o3 := LO_X0.out; have o4 := HI_X0.out; have o5 := SZ_w8.out; have o6 := LO_X1.out; have o7 := HI_X1.out; have o8 := SZ_Y9.out; have o9 := HEX1.out; have o10 := BL_X1.out; have o11 := SZ_w10.out; have o12 := LO_X2.out; have o13 := HI_X2.out; have o14 := SZ_w11.out; have o15 := LO_G.out; have o16 := SZ_w12.out; have o17 := SZ_w13.out; have o18 := LO_T0.out; have o19 := HI_T0.out; have o20 := SZ_w14.out; have o21 := SZ_w16.out; have o22 := SZ_w17.out; have o23 := LO_T2.out; have o24 := HI_T2.out; have o25 := SZ_w18.out; have o26 := SZ_w19.out; have oc := HI_G.out h; omega)
      have SZ_w20 : Hid (w19.heap.size ≤ w20.heap.size) := hg.size
      have HB_w20 : Hid (Below W.heap.size W w20) := HB_w19.out.trans (below_of_grown hg HB_w19.out.size LW_X1.out)
      clear hg hm q0 q1 Sv12 X1v9 X2v8 Gv7 HB_w19
      obtain ⟨kk1, hkk1⟩ : ∃ k : Nat, k = kk0 + vs1.length := ⟨_, rfl⟩
      have hkb1 : kk1 ≤ 2097153 ∧ 0 < kk1 := by have := HNV.out; omega
      rw [← hkk1]
      clear hkk1
      obtain ⟨hkl1, hkp1⟩ := hkb1
      go_wp2_with fail
      refine (markInt64S_any w20 (some ⟨g_w10, 0, none⟩) g_w10 vs2.length vs2.length vs2 kk1 rfl X2v9.out HNV2.out (by omega)).mono ?_
      rintro e w21 ⟨rfl, hg, hm⟩
      have Sv14 : Hid (Ints w21 a_w6 g_w6 xs) := Sv13.out.grown2 hg (fun h => by have o0 := SZ_w6.out; have o1 := LO_S.out; have o2 := SZ_w7.out; have o3 := LO_X0.out; have o4 := HI_X0.out; have o5 := SZ_w8.out; have o6 := LO_X1.out; have o7 := HI_X1.out; have o8 := SZ_Y9.out; have o9 := HEX1.out; have o10 := BL_X1.out; have o11 := SZ_w10.out; have o12 := LO_X2.out; have o13 := HI_X2.out; have o14 := SZ_w11.out; have o15 := LO_G.out; have o16 := SZ_w12.out; have o17 := SZ_w13.out; have o18 := LO_T0.out; have o19 := HI_T0.out; have o20 := SZ_w14.out; have o21 := SZ_w16.out; have o22 := SZ_w17.out; have o23 := LO_T2.out; have o24 := HI_T2.out; have o25 := SZ_w18.out; have o26 := SZ_w19.out; have o27 := SZ_w20.out; have oc := HI_S.out h; omega)
      have Gv9 : Hid (Ints w21 a_w11 g_w11 xs) := Gv8.out.grown2 hg (fun h => by have o0 := SZ_w6.out; have o1 := LO_S.out; have o2 := SZ_w7.out; have o3 := LO_X0.out; have o4 := HI_X0.out; have o5 := SZ_w8.out; have o6 := LO_X1.out; have o7 := HI_X1.out; have o8 := SZ_Y9.out; have o9 := HEX1.out; have o10 := BL_X1.out; have o11 := SZ_w10.out; have o12 := LO_X2.out; have o13 := HI_X2.out; have o14 := SZ_w11.out; have o15 := LO_G.out; have o16 := SZ_w12.out; have o17 := SZ_w13.out; have o18 := LO_T0.out; have o19 := HI_T0.out; have o20 := SZ_w14.out; have o21 := SZ_w16.out; have o22 := SZ_w17.out; have o23 := LO_T2.out; have o24 := HI_T2.out; have o25 := SZ_w18.out; have o26 := SZ_w19.out; have o27 := SZ_w20.out; have oc := HI_G.out h; omega)
      have SZ_w21 : Hid (w20.heap.size ≤ w21.heap.size) := hg.size
      have HB_w21 : Hid (Below W.heap.size W w21) := HB_w20.out.trans (below_of_grown hg HB_w20.out.size LW_X2.out)
      clear hg hm Sv13 X2v9 Gv8 HB_w20
      obtain ⟨kk2, hkk2⟩ : ∃ k : Nat, k = kk1 + vs2.length := ⟨_, rfl⟩
      have hkb2 : kk2 ≤ 3145729 ∧ 0 < kk2 := by have := HNV2.out; omega
      rw [← hkk2]
      clear hkk2
      obtain ⟨hkl2, hkp2⟩ := hkb2
      have hkn : ¬ (kk2 : Int) < 0 := by omega
      go_wp2_with fail
      refine (eqInt64S_same w21 a_w11 a_w6 g_w11 g_w6 k_w11 k_w6 xs HXL.out Gv9.out Sv14.out).mono ?_
      rintro e w22 ⟨rfl, hb⟩
      have SZ_w22 : Hid (w21.heap.size ≤ w22.heap.size) := hb.size
      have Sv15 : Hid (Ints w22 a_w6 g_w6 xs) := Sv14.out.below hb
      have Gv10 : Hid (Ints w22 a_w11 g_w11 xs) := Gv9.out.below hb
      have HB_w22 : Hid (Below W.heap.size W w22) := HB_w21.out.trans (hb.mono HB_w21.out.size)
      clear hb Sv14 Gv9 HB_w21
      clear hkn
      go_wp2_with fail
      refine (markInt64S_any w22 a_w11 g_w11 xs.length k_w11 xs 1 rfl Gv10.out HXL.out (by omega)).mono ?_
      rintro e w23 ⟨rfl, hg, hm⟩
      have Sv16 : Hid (Ints w23 a_w6 g_w6 xs) := Sv15.out.grown2 hg (fun h => by have o0 := SZ_w6.out; have o1 := LO_S.out; have o2 := SZ_w7.out; have o3 := LO_X0.out; have o4 := HI_X0.out; have o5 := SZ_w8.out; have o6 := LO_X1.out; have o7 := HI_X1.out; have o8 := SZ_Y9.out; have o9 := HEX1.out; have o10 := BL_X1.out; have o11 := SZ_w10.out; have o12 := LO_X2.out; have o13 := HI_X2.out; have o14 := SZ_w11.out; have o15 := LO_G.out; have o16 := SZ_w12.out; have o17 := SZ_w13.out; have o18 := LO_T0.out; have o19 := HI_T0.out; have o20 := SZ_w14.out; have o21 := SZ_w16.out; have o22 := SZ_w17.out; have o23 := LO_T2.out; have o24 := HI_T2.out; have o25 := SZ_w18.out; have o26 := SZ_w19.out; have o27 := SZ_w20.out; have o28 := SZ_w21.out; have o29 := SZ_w22.out; have oc := HI_S.out h; omega)
      have SZ_w23 : Hid (w22.heap.size ≤ w23.heap.size) := hg.size
      have HB_w23 : Hid (Below W.heap.size W w23) := HB_w22.out.trans (below_of_grown hg HB_w22.out.size LW_G.out)
      have Gv11 : Hid (Ints w23 a_w11 g_w11 (marks 1 xs.length)) := hm
      clear hg hm Sv15 Gv10 HB_w22
      rw [← HKM.out]
      go_wp2_with fail
      refine (heldInt64S_any w23 a_w11 g_w11 xs.length k_w11 1 Gv11.out HXL.out (by omega)).mono ?_
      rintro e w24 ⟨rfl, hb⟩
      rw [← HKM.out]
      have SZ_w24 : Hid (w23.heap.size ≤ w24.heap.size) := hb.size
      have Sv17 : Hid (Ints w24 a_w6 g_w6 xs) := Sv16.out.below hb
      have Gv12 : Hid (Ints w24 a_w11 g_w11 (marks 1 xs.length)) := Gv11.out.below hb
      have HB_w24 : Hid (Below W.heap.size W w24) := HB_w23.out.trans (hb.mono HB_w23.out.size)
      clear hb Sv16 Gv11 HB_w23
      have hacc : Below w24.heap.size w24 w24.drew := (Below.refl _ _).drew
      have HCU_w28 : Hid (∀ w', Below w24.heap.size w24 w' → Below W.heap.size W w') := fun w' h => HB_w24.out.trans (h.mono HB_w24.out.size)
      obtain ⟨m0, m1⟩ := HK.out w24 HB_w24.out
      go_wp2_with fail
      go_region_held3 (fun w' => w'.cell? ⟨w.heap.size, 0, none⟩ = some (.int .i64 t1) ∧ w'.cell? ⟨w.heap.size, 1, none⟩ = some (.slice b1 vs1.length vc1)) (first | with_reducible exact HK.out _ (HCU_w28.out _ hacc)) (first | (go_at_call 11; refine (toStringS_any _ a0 c0 xs0 HNX.out (HLW.out _ (HCU_w28.out _ hacc))).mono ?_; rintro e w25 ⟨gS, rfl, hgX, hgY, hlS, hrX, hbX⟩; have hac2 : Below w24.heap.size w24 w25 := hacc.trans (hbX.mono hacc.size); clear hacc hbX; have hacc := hac2; clear hac2; clear hgX hgY hrX) | (go_at_call 12; refine (toNur_any _ t1 b1 vc1 vs1 HNV.out (HNW.out _ (HCU_w28.out _ hacc))).mono ?_; rintro e w26 ⟨gO, rfl, hgX, hgY, hlO, hbX⟩; have hlS2 := hlS.below hbX; clear hlS; have hlS := hlS2; clear hlS2; have hac2 : Below w24.heap.size w24 w26 := hacc.trans (hbX.mono hacc.size); clear hacc hbX; have hacc := hac2; clear hac2; clear hgX hgY) | (go_at_call 13; refine (toInt64S_any _ b2 vc2 vs2 HNV2.out (HNR.out _ (HCU_w28.out _ hacc))).mono ?_; rintro e w27 ⟨gN, rfl, hgX, hgY, hlN, hbX⟩; have hlS2 := hlS.below hbX; have hlO2 := hlO.below hbX; clear hlS hlO; have hlS := hlS2; have hlO := hlO2; clear hlS2 hlO2; have hac2 : Below w24.heap.size w24 w27 := hacc.trans (hbX.mono hacc.size); clear hacc hbX; have hacc := hac2; clear hac2; clear hgX hgY) | (go_at_call 14; refine (HI.out _ _ _ _ _ _ hlS hlO.nums hlN.nums).mono ?_; rintro e w28 ⟨a_w28, g_w28, k_w28, rfl, hgX, hinR, hbX⟩; have hgT : w24.heap.size ≤ g_w28 := Nat.le_trans hacc.size hgX; have hac2 : Below w24.heap.size w24 w28 := hacc.trans (hbX.mono hacc.size); clear hacc hbX; have hacc := hac2; clear hac2; clear hgX hlS hlO hlN))
      all_goals
        have LO_Hh : Hid (w24.heap.size ≤ g_w28) := hgT
        have HI_Hh : Hid (0 < xs.length → g_w28 < w28.heap.size) := fun h => hinR.lt h
        have LW_Hh : Hid (W.heap.size ≤ g_w28) := by have h1 := HB_w24.out.size; show W.heap.size ≤ g_w28; omega
        have SZ_w28 : Hid (w24.heap.size ≤ w28.heap.size) := hacc.size
        have Sv18 : Hid (Ints w28 a_w6 g_w6 xs) := Sv17.out.below hacc
        have Gv13 : Hid (Ints w28 a_w11 g_w11 (marks 1 xs.length)) := Gv12.out.below hacc
        have HB_w28 : Hid (Below W.heap.size W w28) := HB_w24.out.trans (hacc.mono HB_w24.out.size)
        have Hhv0 : Hid (Ints w28 a_w28 g_w28 xs) := hinR
        clear hinR hgT
        clear hacc m0 m1 HCU_w28 Sv17 Gv12 HB_w24
        go_wp2_with fail
        refine (eqInt64S_same w28 a_w28 a_w6 g_w28 g_w6 k_w28 k_w6 xs HXL.out Hhv0.out Sv18.out).mono ?_
        rintro e w29 ⟨rfl, hb⟩
        have SZ_w29 : Hid (w28.heap.size ≤ w29.heap.size) := hb.size
        have Sv19 : Hid (Ints w29 a_w6 g_w6 xs) := Sv18.out.below hb
        have Gv14 : Hid (Ints w29 a_w11 g_w11 (marks 1 xs.length)) := Gv13.out.below hb
        have Hhv1 : Hid (Ints w29 a_w28 g_w28 xs) := Hhv0.out.below hb
        have HB_w29 : Hid (Below W.heap.size W w29) := HB_w28.out.trans (hb.mono HB_w28.out.size)
        clear hb Sv18 Gv13 Hhv0 HB_w28
        clear Hhv1
        go_wp2_with fail
        refine (heldInt64S_any w29 a_w11 g_w11 xs.length k_w11 1 Gv14.out HXL.out (by omega)).mono ?_
        rintro e w30 ⟨rfl, hb⟩
        rw [← HKM.out]
        have SZ_w30 : Hid (w29.heap.size ≤ w30.heap.size) := hb.size
        have Sv20 : Hid (Ints w30 a_w6 g_w6 xs) := Sv19.out.below hb
        have Gv15 : Hid (Ints w30 a_w11 g_w11 (marks 1 xs.length)) := Gv14.out.below hb
        have HB_w30 : Hid (Below W.heap.size W w30) := HB_w29.out.trans (hb.mono HB_w29.out.size)
        clear hb Sv19 Gv14 HB_w29
        go_wp2
        go_ret
        exact ⟨rfl, HEnd.out _ HB_w30.out⟩

set_option maxRecDepth 100000 in
theorem lifted (os : Os) (started : os.Started) (H : Type) (enc : TypeId × Value → H) :
    ReturnsInHanded {} Try.checked os 3 .any (Rows.fnExactYoungClosureSpec.pre6 enc Try.prog Try.f3 Rows.fnExactYoungClosureRow.domain false) (Rows.fnExactYoungClosureSpec.post enc Try.prog Try.f3 false true false false) := by
  refine returnsInHanded_of_change (C := Try.checked) own started (by kernel_rfl) Try.func3
    (ChangeSpec.witness6 (enc := enc) (C := Try.checked) false ⟨#[], #[.slice none 0 0, .agg #[.int .i64 0, .slice none 0 0], .slice none 0 0], []⟩ 8 (by kernel_rfl) (by kernel_rfl) (by kernel_rfl) (by kernel_rfl)) ?_
  intro W base args ds gs before hval0 hW hcnd _
  have hval : ∀ (j : Nat) t v, Try.f3.params[j]? = some t → args[j]? = some v → Value.okWide Try.prog W .any base t v := hval0
  have hW' := hW
  obtain ⟨p, q, hA0, hV, rfl, hfz, hnd⟩ := hW
  have hA : DataW.TrodAll enc Try.prog W 0 (fun _ => true) true Try.f3.params.toList args.toList ds p := hA0
  rw [Try.params3] at hA hval
  obtain ⟨v0, vs_0, d0, ds0, p0, q0, hargs, rfl, rfl, h0, r0⟩ := trodAll_cons hA
  obtain ⟨v1, vs_1, d1, ds1, p1, q1, rfl, rfl, rfl, h1, r1⟩ := trodAll_cons r0
  obtain ⟨v2, vs_2, d2, ds2, p2, q2, rfl, rfl, rfl, h2, r2⟩ := trodAll_cons r1
  obtain ⟨rfl, rfl, rfl⟩ := trodAll_nil r2
  obtain rfl : args = #[v0, v1, v2] := by cases args; simp_all
  obtain ⟨rfl, rfl⟩ := trodVars_none hV
  have k_0 := h0
  have lt_0 : ∀ x ∈ p0, x.block < W.heap.size := by obtain ⟨m, hm⟩ := k_0; exact DataW.trod_lt m _ _ _ hm
  obtain ⟨a0, c0, xs0, rfl, hl0, hm0, hz0⟩ := strs_of (hval 0 22 v0 rfl rfl) h0
  have k_1 := h1
  have lt_1 : ∀ x ∈ p1, x.block < W.heap.size := by obtain ⟨m, hm⟩ := k_1; exact DataW.trod_lt m _ _ _ hm
  obtain ⟨t1, b1, vc1, vs1, rfl, ht1, hk1, hn1, hw1⟩ := nur_of (hval 1 25 v1 rfl rfl) h1
  have k_2 := h2
  have lt_2 : ∀ x ∈ p2, x.block < W.heap.size := by obtain ⟨m, hm⟩ := k_2; exact DataW.trod_lt m _ _ _ hm
  obtain ⟨b2, vc2, vs2, rfl, hn2, hk2, hw2⟩ := numsw_of (hval 2 23 v2 rfl rfl) h2
  clear hA0 hval0
  refine (walk a0 c0 xs0 t1 b1 vc1 vs1 b2 vc2 vs2 W hl0 hm0 hz0 ht1 hk1 hn1 hw1 hk2 hn2 hw2).mono fun e W' ⟨he, bel⟩ => ?_
  subst he
  exact ⟨_, rfl, _, _, _, [], _, [], hW', trodAll_mk1 (shut_bool Try.underlying4 _), (trodAll_cons_mk (Below.trod laidOut (by kernel_rfl) (of_decide_eq_true (by kernel_rfl)) k_0 bel lt_0) (trodAll_cons_mk (Below.trod laidOut (by kernel_rfl) (of_decide_eq_true (by kernel_rfl)) k_1 bel lt_1) (trodAll_cons_mk (Below.trod laidOut (by kernel_rfl) (of_decide_eq_true (by kernel_rfl)) k_2 bel lt_2) trodAll_mk0))), rfl, bel.frame _, fun h => by cases h⟩

theorem over : Rows.fnExactYoungClosureRow.holds Try.pinned (OpenSpec.ofChange Rows.fnExactYoungClosureSpec) :=
  OpenClaim.holds_of_wide 3 Try.f3 rfl rfl rfl rfl rfl rfl rfl ⟨rfl, rfl, rfl, rfl, rfl⟩ rfl rfl rfl rfl rfl (by kernel_rfl) Try.func3 (by kernel_rfl)
    (of_decide_eq_true (by kernel_rfl)) (by unfold Func.isWrapper; first | (rw [if_pos (by decide +kernel)]; kernel_rfl) | (rw [if_neg (by decide +kernel)]; exact ⟨rfl, rfl⟩))
    (fun os started H enc _ => lifted os started H enc)

theorem proved : Rows.FnExactYoungClosureSaid := over
#print axioms proved
end Go.Proofs.Ytngpmohmnpbcnaa.fnExactYoungClosure
