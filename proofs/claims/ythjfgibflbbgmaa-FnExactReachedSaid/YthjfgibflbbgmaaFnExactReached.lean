/-
  FnExactReached: for every slice of texts and every graph the law that holds the program's Reached against the specification's Reached returns true, and the arguments read as before; no condition.
-/
import Derived.Test.YthjfgibflbbgmaaGsReach
import Derived.Test.YthjfgibflbbgmaaTxt
import Derived.Test.YthjfgibflbbgmaaGr8
import Derived.Deep.RegionHeld3
import Derived.ProofKit
import Derived.OpenShut
import Derived.ShutString
import Derived.ChangeOld
import Derived.Below
import Derived.Lib.SmallJoins
namespace Go.Proofs.Ythjfgibflbbgmaa.fnExactReached
open Go.ChangeShapes Go.WideShapes Go.ChangeAt Go.RowKit
open kinds ints obj txt gr gs

theorem own : ownKnob Try.prog.godebug = none := by kernel_rfl
theorem laidOut : laidOutB Try.prog = true := by kernel_rfl


set_option linter.unusedVariables false in
set_option maxHeartbeats 4000000 in
set_option maxRecDepth 20000 in
theorem walk (a0 : Option Addr) (c0 : Nat) (xs0 : List ByteArray) (b1 : Option Addr) (vc1 : Nat) (rs1 : List Int) (ga1 : Option Addr) (gc1 : Nat) (ns1 : List Nd) (w : World) (hl0 : Strs w a0 xs0) (hm0 : xs0.length ≤ maxLen) (hz0 : ∀ i (hi : i < xs0.length), xs0[i].size ≤ maxLen) (hk1 : Nums w b1 rs1) (hn1 : rs1.length ≤ maxLen) (hw1 : ∀ x ∈ rs1, (Lit.int .i64 x).wf = true) (hg1 : Nodes w ga1 ns1) (hm1 : ns1.length ≤ maxLen) (ho1 : ∀ x ∈ ns1, NdOk x) :
    Calls Try.prog 3 #[.slice a0 xs0.length c0, .agg #[.slice b1 rs1.length vc1, .slice ga1 ns1.length gc1]] w fun e w' => e = .returned (.bool true) ∧ Below w.heap.size w w' := by
  obtain ⟨W, hW⟩ : ∃ W, W = w.alloc (.cells #[.slice b1 rs1.length vc1, .slice ga1 ns1.length gc1] 26) := ⟨_, rfl⟩
  have HB0 : Hid (Below w.heap.size w W) := by
    have h1 : Below w.heap.size w W := by rw [hW]; exact (Below.refl _ _).alloc (Nat.le_refl _) _
    exact h1
  have hsz : w.heap.size < W.heap.size := by rw [hW]; simp
  have HK : Hid (∀ w', Below W.heap.size W w' → w'.cell? ⟨w.heap.size, 0, none⟩ = some (.slice b1 rs1.length vc1) ∧ w'.cell? ⟨w.heap.size, 1, none⟩ = some (.slice ga1 ns1.length gc1)) := fun w' h =>
    ⟨by rw [h.cell (p := ⟨w.heap.size, 0, none⟩) hsz, hW, World.cell?_alloc_new]; rfl, by rw [h.cell (p := ⟨w.heap.size, 1, none⟩) hsz, hW, World.cell?_alloc_new]; rfl⟩
  have HW : Hid (W = w.alloc (.cells #[.slice b1 rs1.length vc1, .slice ga1 ns1.length gc1] 26)) := hW
  have HLW : Hid (∀ w', Below W.heap.size W w' → Strs w' a0 xs0) := fun w' h => (hl0.below HB0.out).below h
  have HNW : Hid (∀ w', Below W.heap.size W w' → Nums w' b1 rs1 ∧ Nodes w' ga1 ns1) := fun w' h => ⟨(hk1.below HB0.out).below h, (hg1.below HB0.out).below h⟩
  have HEnd : Hid (∀ w', Below W.heap.size W w' → Below w.heap.size w w') := fun w' h => HB0.out.trans (h.mono HB0.out.size)
  have HSZ : Hid (∀ w, Strs w a0 xs0 → Calls _ _ _ w _) := fun w h => szStringS_any w a0 c0 xs0 1048576 (by omega) (by omega) hm0 h hz0
  have HSO : Hid (∀ (left : Int) w, Nodes w ga1 ns1 → 0 ≤ left → left ≤ 1048576 → Calls _ _ _ w _) := fun left w q q1 q2 => szGraph_any w b1 vc1 rs1 ga1 gc1 ns1 left q1 q2 hn1 hm1 ho1 q
  clear hW hl0 hk1 hz0 hw1 hm0 hn1 hg1 hm1 ho1
  go_enter Try.func3, Try.ntmps3
  go_wp2_with fail
  rw [← HW.out]
  refine (HSZ.out W (HLW.out W (Below.refl _ _))).mono ?_
  rintro e w1 ⟨r, rfl, hr0, hr1, hr2, hw⟩
  have HB_w1 : Hid (Below W.heap.size W w1) := by first | exact hw | (subst hw; exact Below.refl _ _)
  have HR1 : Hid (0 ≤ r → xs0.length ≤ 1048576 ∧ ∀ i (hi : i < xs0.length), xs0[i].size ≤ 1048576) := hr2
  clear hr2 hw
  by_cases hneg : r < 0
  · go_wp2
    go_ret
    exact ⟨rfl, HEnd.out _ HB_w1.out⟩
  obtain ⟨hn, hz⟩ := HR1.out (by omega)
  have HZ : Hid (∀ i (hi : i < xs0.length), xs0[i].size ≤ 1048576) := hz
  have HNX : Hid (xs0.length ≤ 1048576) := hn
  clear hz HR1
  obtain ⟨m0, m1⟩ := HK.out w1 HB_w1.out
  go_wp2_with fail
  refine (HSO.out r w1 (HNW.out w1 HB_w1.out).2 (by omega) hr1).mono ?_
  rintro e w2 ⟨r2, rfl, hs0, hs1, hs2, hb2⟩
  have HB_w2 : Hid (Below W.heap.size W w2) := HB_w1.out.trans (hb2.mono HB_w1.out.size)
  have HR2 : Hid (0 ≤ r2 → rs1.length ≤ 1048576 ∧ ns1.length ≤ 1048576 ∧ ∀ x ∈ ns1, x.2.length ≤ 1048576) := hs2
  clear hs2 hb2 m0 m1
  by_cases hneg2 : r2 < 0
  · go_wp2
    go_ret
    exact ⟨rfl, HEnd.out _ HB_w2.out⟩
  obtain ⟨hnr, hnn, hnz⟩ := HR2.out (by omega)
  have HNR : Hid (rs1.length ≤ 1048576) := hnr
  have HNN : Hid (ns1.length ≤ 1048576) := hnn
  have HNZ : Hid (∀ x ∈ ns1, x.2.length ≤ 1048576) := hnz
  have HS : Hid (∀ (w : World) (a0' : Option Addr) (k0' : Nat) (a1' : Option Addr) (k1' : Nat) (c1' : Option Addr) (d1' : Nat), Strs w a0' xs0 → Nums w a1' rs1 → Nodes w c1' ns1 → _) := fun w a0' k0' a1' k1' c1' d1' q0 q1 q2 => spec_reached w a0' k0' xs0 a1' k1' rs1 c1' d1' ns1 HNX.out HZ.out HNR.out HNN.out q0 q1 q2
  have HI : Hid (∀ (w : World) (a0' : Option Addr) (k0' : Nat) (a1' : Option Addr) (k1' : Nat) (c1' : Option Addr) (d1' : Nat), Strs w a0' xs0 → Nums w a1' rs1 → Nodes w c1' ns1 → _) := fun w a0' k0' a1' k1' c1' d1' q0 q1 q2 => impl_reached w a0' k0' xs0 a1' k1' rs1 c1' d1' ns1 HNX.out HZ.out HNR.out HNN.out q0 q1 q2
  have hbnd : (reachS xs0 rs1 ns1).length ≤ 1048576 := reachS_len xs0 rs1 ns1
  unfold LOut at HS HI
  have hxl : (reachS xs0 rs1 ns1).length ≤ 1048576 := hbnd
  generalize reachS xs0 rs1 ns1 = xs at HS HI hxl
  have HXL : Hid (xs.length ≤ 1048576) := hxl
  obtain ⟨km, hkm⟩ : ∃ km : Int, km = ((1 + xs.length : Nat) : Int) := ⟨_, rfl⟩
  have HKM : Hid (km = ((1 + xs.length : Nat) : Int)) := hkm
  have hq0 : (km != km) = false := by simp
  have hq1 : ¬ km < 0 := by omega
  clear hxl hbnd hkm
  clear hr0 hr1 hs0 hs1 hneg HR2 hn hnr hnn hnz
  have hacc : Below w2.heap.size w2 w2.drew := (Below.refl _ _).drew
  have HCU_w5 : Hid (∀ w', Below w2.heap.size w2 w' → Below W.heap.size W w') := fun w' h => HB_w2.out.trans (h.mono HB_w2.out.size)
  obtain ⟨m0, m1⟩ := HK.out w2 HB_w2.out
  go_wp2_with fail
  go_region_held3 (fun w' => w'.cell? ⟨w.heap.size, 0, none⟩ = some (.slice b1 rs1.length vc1) ∧ w'.cell? ⟨w.heap.size, 1, none⟩ = some (.slice ga1 ns1.length gc1)) (first | with_reducible exact HK.out _ (HCU_w5.out _ hacc)) (first | (go_at_call 13; refine (toStringS_any _ a0 c0 xs0 HNX.out (HLW.out _ (HCU_w5.out _ hacc))).mono ?_; rintro e w3 ⟨gS, rfl, hgX, hgY, hlS, hrX, hbX⟩; have hac2 : Below w2.heap.size w2 w3 := hacc.trans (hbX.mono hacc.size); clear hacc hbX; have hacc := hac2; clear hac2; clear hgX hgY hrX) | (go_at_call 14; refine (toGraph_lo _ b1 vc1 rs1 ga1 gc1 ns1 HNR.out HNN.out HNZ.out (HNW.out _ (HCU_w5.out _ hacc)).1 (HNW.out _ (HCU_w5.out _ hacc)).2).mono ?_; rintro e w4 ⟨gO, hO, rfl, hgX, hlO, hcO, hbX⟩; have hlS2 := hlS.below hbX; clear hlS; have hlS := hlS2; clear hlS2; have hac2 : Below w2.heap.size w2 w4 := hacc.trans (hbX.mono hacc.size); clear hacc hbX; have hacc := hac2; clear hac2; clear hgX) | (go_at_call 12; refine (HS.out _ _ _ _ _ _ _ hlS hlO.nums hcO.nodes).mono ?_; rintro e w5 ⟨a_w5, g_w5, k_w5, rfl, hgX, hinR, hbX⟩; have hgT : w2.heap.size ≤ g_w5 := Nat.le_trans hacc.size hgX; have hac2 : Below w2.heap.size w2 w5 := hacc.trans (hbX.mono hacc.size); clear hacc hbX; have hacc := hac2; clear hac2; clear hgX hlS hlO hcO))
  all_goals
    have LO_S : Hid (w2.heap.size ≤ g_w5) := hgT
    have HI_S : Hid (0 < xs.length → g_w5 < w5.heap.size) := fun h => hinR.lt h
    have LW_S : Hid (W.heap.size ≤ g_w5) := by have h1 := HB_w2.out.size; show W.heap.size ≤ g_w5; omega
    have SZ_w5 : Hid (w2.heap.size ≤ w5.heap.size) := hacc.size
    have HB_w5 : Hid (Below W.heap.size W w5) := HB_w2.out.trans (hacc.mono HB_w2.out.size)
    have Sv0 : Hid (Ints w5 a_w5 g_w5 xs) := hinR
    clear hinR hgT
    clear hacc m0 m1 HCU_w5 HB_w2
    go_wp2_with fail
    refine (toStringS_any w5 a0 c0 xs0 HNX.out (HLW.out _ HB_w5.out)).mono ?_
    rintro e w6 ⟨g_w6, rfl, hlo, hhi, hst, hrw, hb⟩
    have LO_X0 : Hid (w5.heap.size ≤ g_w6) := hlo
    have HI_X0 : Hid (g_w6 < w6.heap.size) := hhi
    have LW_X0 : Hid (W.heap.size ≤ g_w6) := by have h1 := HB_w5.out.size; show W.heap.size ≤ g_w6; omega
    have SZ_w6 : Hid (w5.heap.size ≤ w6.heap.size) := hb.size
    have Sv1 : Hid (Ints w6 a_w5 g_w5 xs) := Sv0.out.below hb
    have HB_w6 : Hid (Below W.heap.size W w6) := HB_w5.out.trans (hb.mono HB_w5.out.size)
    have X0v0 : Hid (Txts w6 (some ⟨g_w6, 0, none⟩) g_w6 xs0) := txts_of hst hrw
    clear hb hlo hhi hst hrw Sv0 HB_w5
    obtain ⟨m0, m1⟩ := HK.out w6 HB_w6.out
    go_wp2_with fail
    refine (toGraph_lo w6 b1 vc1 rs1 ga1 gc1 ns1 HNR.out HNN.out HNZ.out (HNW.out _ HB_w6.out).1 (HNW.out _ HB_w6.out).2).mono ?_
    rintro e w7 ⟨g_w7, h_w7, rfl, ⟨hlo, hmi, hhi⟩, hin, hcp, hb⟩
    have LO_X1 : Hid (w6.heap.size ≤ g_w7 ∧ g_w7 < h_w7) := ⟨hlo, hmi⟩
    have HI_X1 : Hid (h_w7 < w7.heap.size) := hhi
    have LL_X1 : Hid (W.heap.size ≤ w6.heap.size) := HB_w6.out.size
    have LW_X1 : Hid (W.heap.size ≤ g_w7) := by have h1 := HB_w6.out.size; show W.heap.size ≤ g_w7; omega
    have SZ_w7 : Hid (w6.heap.size ≤ w7.heap.size) := hb.size
    have Sv2 : Hid (Ints w7 a_w5 g_w5 xs) := Sv1.out.below hb
    have X0v1 : Hid (Txts w7 (some ⟨g_w6, 0, none⟩) g_w6 xs0) := X0v0.out.below hb
    have HB_w7 : Hid (Below W.heap.size W w7) := HB_w6.out.trans (hb.mono HB_w6.out.size)
    obtain ⟨Y8, hY8⟩ : ∃ Y, Y = w7.alloc (.cells #[.slice (some ⟨g_w7, 0, none⟩) rs1.length rs1.length, .slice (some ⟨h_w7, 0, none⟩) ns1.length ns1.length] 33) := ⟨_, rfl⟩
    have HY8 : Hid (Y8 = w7.alloc (.cells #[.slice (some ⟨g_w7, 0, none⟩) rs1.length rs1.length, .slice (some ⟨h_w7, 0, none⟩) ns1.length ns1.length] 33)) := hY8
    have hbY8 : Below w7.heap.size w7 Y8 := by rw [hY8]; exact (Below.refl _ _).alloc (Nat.le_refl _) _
    obtain ⟨BX1, hBX1⟩ : ∃ B, B = w7.heap.size := ⟨_, rfl⟩
    have HEX1 : Hid (BX1 = w7.heap.size) := hBX1
    have X1bx : Hid (GVar BX1 g_w7 h_w7 w7.heap.size rs1 ns1 Y8) := by rw [hY8, hBX1]; exact GVar.start w7 g_w7 h_w7 rs1 ns1 _ hin hcp
    have BL_X1 : Hid (BX1 < Y8.heap.size) := X1bx.out.lt
    have BW_X1 : Hid (W.heap.size ≤ BX1) := by have h1 := HB_w7.out.size; show W.heap.size ≤ BX1; omega
    have SZ_Y8 : Hid (w7.heap.size ≤ Y8.heap.size) := hbY8.size
    have Sv3 : Hid (Ints Y8 a_w5 g_w5 xs) := Sv2.out.below hbY8
    have X0v2 : Hid (Txts Y8 (some ⟨g_w6, 0, none⟩) g_w6 xs0) := X0v1.out.below hbY8
    have HB_Y8 : Hid (Below W.heap.size W Y8) := HB_w7.out.trans (hbY8.mono HB_w7.out.size)
    have X1v0 : Hid (GVar BX1 g_w7 h_w7 w7.heap.size rs1 ns1 Y8) := X1bx.out
    clear hY8 hbY8 hBX1 X1bx hb hlo hmi hhi hin hcp m0 m1 Sv1 X0v0 HB_w6 Sv2 X0v1 HB_w7
    have q0 := X1v0.out.c0
    have q1 := X1v0.out.c1
    go_wp2_with (first | (rw [← HY8.out, ← HEX1.out]) | (rw [← HY8.out]))
    try rw [← HY8.out]
    try rw [← HEX1.out]
    refine (HI.out Y8 _ _ _ _ _ _ X0v2.out.strs X1v0.out.ir.nums X1v0.out.cp.nodes).mono ?_
    rintro e w9 ⟨a_w9, g_w9, k_w9, rfl, hlo, hi, hb⟩
    have LO_G : Hid (Y8.heap.size ≤ g_w9) := hlo
    have HI_G : Hid (0 < xs.length → g_w9 < w9.heap.size) := fun h => hi.lt h
    have LW_G : Hid (W.heap.size ≤ g_w9) := by have h1 := HB_Y8.out.size; show W.heap.size ≤ g_w9; omega
    have SZ_w9 : Hid (Y8.heap.size ≤ w9.heap.size) := hb.size
    have Sv4 : Hid (Ints w9 a_w5 g_w5 xs) := Sv3.out.below hb
    have X0v3 : Hid (Txts w9 (some ⟨g_w6, 0, none⟩) g_w6 xs0) := X0v2.out.below hb
    have X1v1 : Hid (GVar BX1 g_w7 h_w7 w7.heap.size rs1 ns1 w9) := X1v0.out.below hb
    have HB_w9 : Hid (Below W.heap.size W w9) := HB_Y8.out.trans (hb.mono HB_Y8.out.size)
    have Gv0 : Hid (Ints w9 a_w9 g_w9 xs) := hi
    clear hb hi hlo q0 q1 Sv3 X0v2 X1v0 HB_Y8
    go_wp2_with fail
    refine (eqInt64S_same w9 a_w9 a_w5 g_w9 g_w5 k_w9 k_w5 xs HXL.out Gv0.out Sv4.out).mono ?_
    rintro e w10 ⟨rfl, hb⟩
    have SZ_w10 : Hid (w9.heap.size ≤ w10.heap.size) := hb.size
    have Sv5 : Hid (Ints w10 a_w5 g_w5 xs) := Sv4.out.below hb
    have X0v4 : Hid (Txts w10 (some ⟨g_w6, 0, none⟩) g_w6 xs0) := X0v3.out.below hb
    have X1v2 : Hid (GVar BX1 g_w7 h_w7 w7.heap.size rs1 ns1 w10) := X1v1.out.below hb
    have Gv1 : Hid (Ints w10 a_w9 g_w9 xs) := Gv0.out.below hb
    have HB_w10 : Hid (Below W.heap.size W w10) := HB_w9.out.trans (hb.mono HB_w9.out.size)
    clear hb Sv4 X0v3 X1v1 Gv0 HB_w9
    go_wp2_with fail
    refine (toStringS_any w10 a0 c0 xs0 HNX.out (HLW.out _ HB_w10.out)).mono ?_
    rintro e w11 ⟨g_w11, rfl, hlo, hhi, hst, hrw, hb⟩
    have LO_T0 : Hid (w10.heap.size ≤ g_w11) := hlo
    have HI_T0 : Hid (g_w11 < w11.heap.size) := hhi
    have LW_T0 : Hid (W.heap.size ≤ g_w11) := by have h1 := HB_w10.out.size; show W.heap.size ≤ g_w11; omega
    have SZ_w11 : Hid (w10.heap.size ≤ w11.heap.size) := hb.size
    have Sv6 : Hid (Ints w11 a_w5 g_w5 xs) := Sv5.out.below hb
    have X0v5 : Hid (Txts w11 (some ⟨g_w6, 0, none⟩) g_w6 xs0) := X0v4.out.below hb
    have X1v3 : Hid (GVar BX1 g_w7 h_w7 w7.heap.size rs1 ns1 w11) := X1v2.out.below hb
    have Gv2 : Hid (Ints w11 a_w9 g_w9 xs) := Gv1.out.below hb
    have HB_w11 : Hid (Below W.heap.size W w11) := HB_w10.out.trans (hb.mono HB_w10.out.size)
    have T0v0 : Hid (Txts w11 (some ⟨g_w11, 0, none⟩) g_w11 xs0) := txts_of hst hrw
    clear hb hlo hhi hst hrw Sv5 X0v4 X1v2 Gv1 HB_w10
    go_wp2_with fail
    refine (eqStringS_same w11 _ _ _ _ xs0 HNX.out X0v5.out.strs T0v0.out.strs).mono ?_
    rintro e w12 ⟨rfl, hb⟩
    have SZ_w12 : Hid (w11.heap.size ≤ w12.heap.size) := hb.size
    have Sv7 : Hid (Ints w12 a_w5 g_w5 xs) := Sv6.out.below hb
    have X0v6 : Hid (Txts w12 (some ⟨g_w6, 0, none⟩) g_w6 xs0) := X0v5.out.below hb
    have X1v4 : Hid (GVar BX1 g_w7 h_w7 w7.heap.size rs1 ns1 w12) := X1v3.out.below hb
    have Gv3 : Hid (Ints w12 a_w9 g_w9 xs) := Gv2.out.below hb
    have T0v1 : Hid (Txts w12 (some ⟨g_w11, 0, none⟩) g_w11 xs0) := T0v0.out.below hb
    have HB_w12 : Hid (Below W.heap.size W w12) := HB_w11.out.trans (hb.mono HB_w11.out.size)
    clear hb Sv6 X0v5 X1v3 Gv2 T0v0 HB_w11
    clear T0v1
    have hacc : Below w12.heap.size w12 w12.drew := (Below.refl _ _).drew
    have HXK : Hid (GVar BX1 g_w7 h_w7 w7.heap.size rs1 ns1 w12) := X1v4.out
    have HCK : Hid (∀ w', Below w12.heap.size w12 w' → (w'.cell? ⟨w.heap.size, 0, none⟩ = some (.slice b1 rs1.length vc1) ∧ w'.cell? ⟨w.heap.size, 1, none⟩ = some (.slice ga1 ns1.length gc1)) ∧ w'.cell? ⟨BX1, 0, none⟩ = some (.slice (some ⟨g_w7, 0, none⟩) rs1.length rs1.length) ∧ w'.cell? ⟨BX1, 1, none⟩ = some (.slice (some ⟨h_w7, 0, none⟩) ns1.length ns1.length)) := fun w' h => ⟨HK.out w' (HB_w12.out.trans (h.mono HB_w12.out.size)), (HXK.out.below h).c0, (HXK.out.below h).c1⟩
    have HNU2 : Hid (∀ w', Below w12.heap.size w12 w' → Nums w' b1 rs1 ∧ Nodes w' ga1 ns1) := fun w' h => HNW.out _ (HB_w12.out.trans (h.mono HB_w12.out.size))
    obtain ⟨⟨m0, m1⟩, q0, q1⟩ := HCK.out w12 (Below.refl _ _)
    go_wp2_with fail
    go_region_held3 (fun w' => (w'.cell? ⟨w.heap.size, 0, none⟩ = some (.slice b1 rs1.length vc1) ∧ w'.cell? ⟨w.heap.size, 1, none⟩ = some (.slice ga1 ns1.length gc1)) ∧ w'.cell? ⟨BX1, 0, none⟩ = some (.slice (some ⟨g_w7, 0, none⟩) rs1.length rs1.length) ∧ w'.cell? ⟨BX1, 1, none⟩ = some (.slice (some ⟨h_w7, 0, none⟩) ns1.length ns1.length)) (first | with_reducible exact HCK.out _ hacc) (first | (go_at_call 14; refine (toGraph_lo _ b1 vc1 rs1 ga1 gc1 ns1 HNR.out HNN.out HNZ.out (HNU2.out _ hacc).1 (HNU2.out _ hacc).2).mono ?_; rintro e w13 ⟨gO, hO, rfl, hgX, hlO, hcO, hbX⟩; have hac2 : Below w12.heap.size w12 w13 := hacc.trans (hbX.mono hacc.size); clear hacc hbX; have hacc := hac2; clear hac2; clear hgX) | (go_at_call 18; refine (eqGraph_same w13 _ _ _ _ _ _ _ _ _ _ rs1 ns1 rfl rfl HNR.out HNN.out HNZ.out (HXK.out.below hacc).ir hlO (HXK.out.below hacc).cp hcO).mono ?_; rintro e w14 ⟨rfl, hbX⟩; have hac2 : Below w12.heap.size w12 w14 := hacc.trans (hbX.mono hacc.size); clear hacc hbX; have hacc := hac2; clear hac2; clear hlO hcO))
    all_goals
      have SZ_w14 : Hid (w12.heap.size ≤ w14.heap.size) := hacc.size
      have Sv8 : Hid (Ints w14 a_w5 g_w5 xs) := Sv7.out.below hacc
      have X0v7 : Hid (Txts w14 (some ⟨g_w6, 0, none⟩) g_w6 xs0) := X0v6.out.below hacc
      have X1v5 : Hid (GVar BX1 g_w7 h_w7 w7.heap.size rs1 ns1 w14) := X1v4.out.below hacc
      have Gv4 : Hid (Ints w14 a_w9 g_w9 xs) := Gv3.out.below hacc
      have HB_w14 : Hid (Below W.heap.size W w14) := HB_w12.out.trans (hacc.mono HB_w12.out.size)
      clear hacc m0 m1 q0 q1 HXK HCK HNU2 Sv7 X0v6 X1v4 Gv3 HB_w12
      go_wp2_with fail
      refine (markStringS_any w14 _ g_w6 xs0.length _ xs0 1 rfl X0v7.out HNX.out (by omega) (by omega)).mono ?_
      rintro e w15 ⟨rfl, hg, hm⟩
      have Sv9 : Hid (Ints w15 a_w5 g_w5 xs) := Sv8.out.grown2 hg (fun h => by have o0 := SZ_w5.out; have o1 := LO_S.out; have o2 := SZ_w6.out; have o3 := LO_X0.out; have o4 := HI_X0.out; have o5 := SZ_w7.out; have o6 := LO_X1.out; have o7 := HI_X1.out; have o8 := SZ_Y8.out; have o9 := HEX1.out; have o10 := BL_X1.out; have o11 := SZ_w9.out; have o12 := LO_G.out; have o13 := SZ_w10.out; have o14 := SZ_w11.out; have o15 := LO_T0.out; have o16 := HI_T0.out; have o17 := SZ_w12.out; have o18 := SZ_w14.out; have oc := HI_S.out h; omega)
      have X1v6 : Hid (GVar BX1 g_w7 h_w7 w7.heap.size rs1 ns1 w15) := X1v5.out.span (Sp.grown (lo := g_w6) (hi := g_w6 + 1) hg (Nat.le_refl _) (Nat.lt_succ_self _)) (by have o0 := SZ_w5.out; have o1 := LO_S.out; have o2 := SZ_w6.out; have o3 := LO_X0.out; have o4 := HI_X0.out; have o5 := SZ_w7.out; have o6 := LO_X1.out; have o7 := HI_X1.out; have o8 := SZ_Y8.out; have o9 := HEX1.out; have o10 := BL_X1.out; have o11 := SZ_w9.out; have o12 := LO_G.out; have o13 := SZ_w10.out; have o14 := SZ_w11.out; have o15 := LO_T0.out; have o16 := HI_T0.out; have o17 := SZ_w12.out; have o18 := SZ_w14.out; omega) (fun _ => by have o0 := SZ_w5.out; have o1 := LO_S.out; have o2 := SZ_w6.out; have o3 := LO_X0.out; have o4 := HI_X0.out; have o5 := SZ_w7.out; have o6 := LO_X1.out; have o7 := HI_X1.out; have o8 := SZ_Y8.out; have o9 := HEX1.out; have o10 := BL_X1.out; have o11 := SZ_w9.out; have o12 := LO_G.out; have o13 := SZ_w10.out; have o14 := SZ_w11.out; have o15 := LO_T0.out; have o16 := HI_T0.out; have o17 := SZ_w12.out; have o18 := SZ_w14.out; omega) (fun _ => by have o0 := SZ_w5.out; have o1 := LO_S.out; have o2 := SZ_w6.out; have o3 := LO_X0.out; have o4 := HI_X0.out; have o5 := SZ_w7.out; have o6 := LO_X1.out; have o7 := HI_X1.out; have o8 := SZ_Y8.out; have o9 := HEX1.out; have o10 := BL_X1.out; have o11 := SZ_w9.out; have o12 := LO_G.out; have o13 := SZ_w10.out; have o14 := SZ_w11.out; have o15 := LO_T0.out; have o16 := HI_T0.out; have o17 := SZ_w12.out; have o18 := SZ_w14.out; omega)
      have Gv5 : Hid (Ints w15 a_w9 g_w9 xs) := Gv4.out.grown2 hg (fun h => by have o0 := SZ_w5.out; have o1 := LO_S.out; have o2 := SZ_w6.out; have o3 := LO_X0.out; have o4 := HI_X0.out; have o5 := SZ_w7.out; have o6 := LO_X1.out; have o7 := HI_X1.out; have o8 := SZ_Y8.out; have o9 := HEX1.out; have o10 := BL_X1.out; have o11 := SZ_w9.out; have o12 := LO_G.out; have o13 := SZ_w10.out; have o14 := SZ_w11.out; have o15 := LO_T0.out; have o16 := HI_T0.out; have o17 := SZ_w12.out; have o18 := SZ_w14.out; have oc := HI_G.out h; omega)
      have SZ_w15 : Hid (w14.heap.size ≤ w15.heap.size) := hg.size
      have HB_w15 : Hid (Below W.heap.size W w15) := HB_w14.out.trans (below_of_grown hg HB_w14.out.size LW_X0.out)
      clear hg hm Sv8 X0v7 X1v5 Gv4 HB_w14
      obtain ⟨kk0, hkk0⟩ : ∃ k : Nat, k = 1 + xs0.length := ⟨_, rfl⟩
      have hkb0 : kk0 ≤ 1048577 ∧ 0 < kk0 := by have := HNX.out; omega
      rw [← hkk0]
      clear hkk0
      obtain ⟨hkl0, hkp0⟩ := hkb0
      have q0 := X1v6.out.c0
      have q1 := X1v6.out.c1
      go_wp2_with fail
      refine (markGraph_any w15 g_w7 h_w7 w6.heap.size w7.heap.size kk0 rs1 ns1 HNR.out HNN.out HNZ.out X1v6.out.ir X1v6.out.cp X1v6.out.bd (by have o0 := SZ_w5.out; have o1 := LO_S.out; have o2 := SZ_w6.out; have o3 := LO_X0.out; have o4 := HI_X0.out; have o5 := SZ_w7.out; have o6 := LO_X1.out; have o7 := HI_X1.out; have o8 := SZ_Y8.out; have o9 := HEX1.out; have o10 := BL_X1.out; have o11 := SZ_w9.out; have o12 := LO_G.out; have o13 := SZ_w10.out; have o14 := SZ_w11.out; have o15 := LO_T0.out; have o16 := HI_T0.out; have o17 := SZ_w12.out; have o18 := SZ_w14.out; have o19 := SZ_w15.out; omega) (by have o0 := SZ_w5.out; have o1 := LO_S.out; have o2 := SZ_w6.out; have o3 := LO_X0.out; have o4 := HI_X0.out; have o5 := SZ_w7.out; have o6 := LO_X1.out; have o7 := HI_X1.out; have o8 := SZ_Y8.out; have o9 := HEX1.out; have o10 := BL_X1.out; have o11 := SZ_w9.out; have o12 := LO_G.out; have o13 := SZ_w10.out; have o14 := SZ_w11.out; have o15 := LO_T0.out; have o16 := HI_T0.out; have o17 := SZ_w12.out; have o18 := SZ_w14.out; have o19 := SZ_w15.out; omega) (by have o0 := SZ_w5.out; have o1 := LO_S.out; have o2 := SZ_w6.out; have o3 := LO_X0.out; have o4 := HI_X0.out; have o5 := SZ_w7.out; have o6 := LO_X1.out; have o7 := HI_X1.out; have o8 := SZ_Y8.out; have o9 := HEX1.out; have o10 := BL_X1.out; have o11 := SZ_w9.out; have o12 := LO_G.out; have o13 := SZ_w10.out; have o14 := SZ_w11.out; have o15 := LO_T0.out; have o16 := HI_T0.out; have o17 := SZ_w12.out; have o18 := SZ_w14.out; have o19 := SZ_w15.out; omega) (by have o0 := SZ_w5.out; have o1 := LO_S.out; have o2 := SZ_w6.out; have o3 := LO_X0.out; have o4 := HI_X0.out; have o5 := SZ_w7.out; have o6 := LO_X1.out; have o7 := HI_X1.out; have o8 := SZ_Y8.out; have o9 := HEX1.out; have o10 := BL_X1.out; have o11 := SZ_w9.out; have o12 := LO_G.out; have o13 := SZ_w10.out; have o14 := SZ_w11.out; have o15 := LO_T0.out; have o16 := HI_T0.out; have o17 := SZ_w12.out; have o18 := SZ_w14.out; have o19 := SZ_w15.out; omega) (by omega)).mono ?_
      rintro e w16 ⟨kk1, rfl, hkl1, hg⟩
      have Sv10 : Hid (Ints w16 a_w5 g_w5 xs) := ints_span Sv9.out hg (fun h => by have o0 := SZ_w5.out; have o1 := LO_S.out; have o2 := SZ_w6.out; have o3 := LO_X0.out; have o4 := HI_X0.out; have o5 := SZ_w7.out; have o6 := LO_X1.out; have o7 := HI_X1.out; have o8 := SZ_Y8.out; have o9 := HEX1.out; have o10 := BL_X1.out; have o11 := SZ_w9.out; have o12 := LO_G.out; have o13 := SZ_w10.out; have o14 := SZ_w11.out; have o15 := LO_T0.out; have o16 := HI_T0.out; have o17 := SZ_w12.out; have o18 := SZ_w14.out; have o19 := SZ_w15.out; have oc := HI_S.out h; omega)
      have Gv6 : Hid (Ints w16 a_w9 g_w9 xs) := ints_span Gv5.out hg (fun h => by have o0 := SZ_w5.out; have o1 := LO_S.out; have o2 := SZ_w6.out; have o3 := LO_X0.out; have o4 := HI_X0.out; have o5 := SZ_w7.out; have o6 := LO_X1.out; have o7 := HI_X1.out; have o8 := SZ_Y8.out; have o9 := HEX1.out; have o10 := BL_X1.out; have o11 := SZ_w9.out; have o12 := LO_G.out; have o13 := SZ_w10.out; have o14 := SZ_w11.out; have o15 := LO_T0.out; have o16 := HI_T0.out; have o17 := SZ_w12.out; have o18 := SZ_w14.out; have o19 := SZ_w15.out; have oc := HI_G.out h; omega)
      have SZ_w16 : Hid (w15.heap.size ≤ w16.heap.size) := hg.2.2.2.1
      have HB_w16 : Hid (Below W.heap.size W w16) := HB_w15.out.trans (hg.low LL_X1.out HB_w15.out.size)
      clear hg q0 q1 Sv9 X1v6 Gv5 HB_w15
      have hkn : ¬ (kk1 : Int) < 0 := by omega
      go_wp2_with fail
      refine (eqInt64S_same w16 a_w9 a_w5 g_w9 g_w5 k_w9 k_w5 xs HXL.out Gv6.out Sv10.out).mono ?_
      rintro e w17 ⟨rfl, hb⟩
      have SZ_w17 : Hid (w16.heap.size ≤ w17.heap.size) := hb.size
      have Sv11 : Hid (Ints w17 a_w5 g_w5 xs) := Sv10.out.below hb
      have Gv7 : Hid (Ints w17 a_w9 g_w9 xs) := Gv6.out.below hb
      have HB_w17 : Hid (Below W.heap.size W w17) := HB_w16.out.trans (hb.mono HB_w16.out.size)
      clear hb Sv10 Gv6 HB_w16
      clear hkn
      go_wp2_with fail
      refine (markInt64S_any w17 a_w9 g_w9 xs.length k_w9 xs 1 rfl Gv7.out HXL.out (by omega)).mono ?_
      rintro e w18 ⟨rfl, hg, hm⟩
      have Sv12 : Hid (Ints w18 a_w5 g_w5 xs) := Sv11.out.grown2 hg (fun h => by have o0 := SZ_w5.out; have o1 := LO_S.out; have o2 := SZ_w6.out; have o3 := LO_X0.out; have o4 := HI_X0.out; have o5 := SZ_w7.out; have o6 := LO_X1.out; have o7 := HI_X1.out; have o8 := SZ_Y8.out; have o9 := HEX1.out; have o10 := BL_X1.out; have o11 := SZ_w9.out; have o12 := LO_G.out; have o13 := SZ_w10.out; have o14 := SZ_w11.out; have o15 := LO_T0.out; have o16 := HI_T0.out; have o17 := SZ_w12.out; have o18 := SZ_w14.out; have o19 := SZ_w15.out; have o20 := SZ_w16.out; have o21 := SZ_w17.out; have oc := HI_S.out h; omega)
      have SZ_w18 : Hid (w17.heap.size ≤ w18.heap.size) := hg.size
      have HB_w18 : Hid (Below W.heap.size W w18) := HB_w17.out.trans (below_of_grown hg HB_w17.out.size LW_G.out)
      have Gv8 : Hid (Ints w18 a_w9 g_w9 (marks 1 xs.length)) := hm
      clear hg hm Sv11 Gv7 HB_w17
      rw [← HKM.out]
      go_wp2_with fail
      refine (heldInt64S_any w18 a_w9 g_w9 xs.length k_w9 1 Gv8.out HXL.out (by omega)).mono ?_
      rintro e w19 ⟨rfl, hb⟩
      rw [← HKM.out]
      have SZ_w19 : Hid (w18.heap.size ≤ w19.heap.size) := hb.size
      have Sv13 : Hid (Ints w19 a_w5 g_w5 xs) := Sv12.out.below hb
      have Gv9 : Hid (Ints w19 a_w9 g_w9 (marks 1 xs.length)) := Gv8.out.below hb
      have HB_w19 : Hid (Below W.heap.size W w19) := HB_w18.out.trans (hb.mono HB_w18.out.size)
      clear hb Sv12 Gv8 HB_w18
      have hacc : Below w19.heap.size w19 w19.drew := (Below.refl _ _).drew
      have HCU_w22 : Hid (∀ w', Below w19.heap.size w19 w' → Below W.heap.size W w') := fun w' h => HB_w19.out.trans (h.mono HB_w19.out.size)
      obtain ⟨m0, m1⟩ := HK.out w19 HB_w19.out
      go_wp2_with fail
      go_region_held3 (fun w' => w'.cell? ⟨w.heap.size, 0, none⟩ = some (.slice b1 rs1.length vc1) ∧ w'.cell? ⟨w.heap.size, 1, none⟩ = some (.slice ga1 ns1.length gc1)) (first | with_reducible exact HK.out _ (HCU_w22.out _ hacc)) (first | (go_at_call 13; refine (toStringS_any _ a0 c0 xs0 HNX.out (HLW.out _ (HCU_w22.out _ hacc))).mono ?_; rintro e w20 ⟨gS, rfl, hgX, hgY, hlS, hrX, hbX⟩; have hac2 : Below w19.heap.size w19 w20 := hacc.trans (hbX.mono hacc.size); clear hacc hbX; have hacc := hac2; clear hac2; clear hgX hgY hrX) | (go_at_call 14; refine (toGraph_lo _ b1 vc1 rs1 ga1 gc1 ns1 HNR.out HNN.out HNZ.out (HNW.out _ (HCU_w22.out _ hacc)).1 (HNW.out _ (HCU_w22.out _ hacc)).2).mono ?_; rintro e w21 ⟨gO, hO, rfl, hgX, hlO, hcO, hbX⟩; have hlS2 := hlS.below hbX; clear hlS; have hlS := hlS2; clear hlS2; have hac2 : Below w19.heap.size w19 w21 := hacc.trans (hbX.mono hacc.size); clear hacc hbX; have hacc := hac2; clear hac2; clear hgX) | (go_at_call 15; refine (HI.out _ _ _ _ _ _ _ hlS hlO.nums hcO.nodes).mono ?_; rintro e w22 ⟨a_w22, g_w22, k_w22, rfl, hgX, hinR, hbX⟩; have hgT : w19.heap.size ≤ g_w22 := Nat.le_trans hacc.size hgX; have hac2 : Below w19.heap.size w19 w22 := hacc.trans (hbX.mono hacc.size); clear hacc hbX; have hacc := hac2; clear hac2; clear hgX hlS hlO hcO))
      all_goals
        have LO_Hh : Hid (w19.heap.size ≤ g_w22) := hgT
        have HI_Hh : Hid (0 < xs.length → g_w22 < w22.heap.size) := fun h => hinR.lt h
        have LW_Hh : Hid (W.heap.size ≤ g_w22) := by have h1 := HB_w19.out.size; show W.heap.size ≤ g_w22; omega
        have SZ_w22 : Hid (w19.heap.size ≤ w22.heap.size) := hacc.size
        have Sv14 : Hid (Ints w22 a_w5 g_w5 xs) := Sv13.out.below hacc
        have Gv10 : Hid (Ints w22 a_w9 g_w9 (marks 1 xs.length)) := Gv9.out.below hacc
        have HB_w22 : Hid (Below W.heap.size W w22) := HB_w19.out.trans (hacc.mono HB_w19.out.size)
        have Hhv0 : Hid (Ints w22 a_w22 g_w22 xs) := hinR
        clear hinR hgT
        clear hacc m0 m1 HCU_w22 Sv13 Gv9 HB_w19
        go_wp2_with fail
        refine (eqInt64S_same w22 a_w22 a_w5 g_w22 g_w5 k_w22 k_w5 xs HXL.out Hhv0.out Sv14.out).mono ?_
        rintro e w23 ⟨rfl, hb⟩
        have SZ_w23 : Hid (w22.heap.size ≤ w23.heap.size) := hb.size
        have Sv15 : Hid (Ints w23 a_w5 g_w5 xs) := Sv14.out.below hb
        have Gv11 : Hid (Ints w23 a_w9 g_w9 (marks 1 xs.length)) := Gv10.out.below hb
        have Hhv1 : Hid (Ints w23 a_w22 g_w22 xs) := Hhv0.out.below hb
        have HB_w23 : Hid (Below W.heap.size W w23) := HB_w22.out.trans (hb.mono HB_w22.out.size)
        clear hb Sv14 Gv10 Hhv0 HB_w22
        clear Hhv1
        go_wp2_with fail
        refine (heldInt64S_any w23 a_w9 g_w9 xs.length k_w9 1 Gv11.out HXL.out (by omega)).mono ?_
        rintro e w24 ⟨rfl, hb⟩
        rw [← HKM.out]
        have SZ_w24 : Hid (w23.heap.size ≤ w24.heap.size) := hb.size
        have Sv16 : Hid (Ints w24 a_w5 g_w5 xs) := Sv15.out.below hb
        have Gv12 : Hid (Ints w24 a_w9 g_w9 (marks 1 xs.length)) := Gv11.out.below hb
        have HB_w24 : Hid (Below W.heap.size W w24) := HB_w23.out.trans (hb.mono HB_w23.out.size)
        clear hb Sv15 Gv11 HB_w23
        go_wp2
        go_ret
        exact ⟨rfl, HEnd.out _ HB_w24.out⟩

set_option maxRecDepth 100000 in
theorem lifted (os : Os) (started : os.Started) (H : Type) (enc : TypeId × Value → H) :
    ReturnsInHanded {} Try.checked os 3 .any (Rows.fnExactReachedSpec.pre6 enc Try.prog Try.f3 Rows.fnExactReachedRow.domain false) (Rows.fnExactReachedSpec.post enc Try.prog Try.f3 false true false false) := by
  refine returnsInHanded_of_change (C := Try.checked) own started (by kernel_rfl) Try.func3
    (ChangeSpec.witness6 (enc := enc) (C := Try.checked) false ⟨#[], #[.slice none 0 0, .agg #[.slice none 0 0, .slice none 0 0]], []⟩ 8 (by kernel_rfl) (by kernel_rfl) (by kernel_rfl) (by kernel_rfl)) ?_
  intro W base args ds gs before hval0 hW hcnd _
  have hval : ∀ (j : Nat) t v, Try.f3.params[j]? = some t → args[j]? = some v → Value.okWide Try.prog W .any base t v := hval0
  have hW' := hW
  obtain ⟨p, q, hA0, hV, rfl, hfz, hnd⟩ := hW
  have hA : DataW.TrodAll enc Try.prog W 0 (fun _ => true) true Try.f3.params.toList args.toList ds p := hA0
  rw [Try.params3] at hA hval
  obtain ⟨v0, vs_0, d0, ds0, p0, q0, hargs, rfl, rfl, h0, r0⟩ := trodAll_cons hA
  obtain ⟨v1, vs_1, d1, ds1, p1, q1, rfl, rfl, rfl, h1, r1⟩ := trodAll_cons r0
  obtain ⟨rfl, rfl, rfl⟩ := trodAll_nil r1
  obtain rfl : args = #[v0, v1] := by cases args; simp_all
  obtain ⟨rfl, rfl⟩ := trodVars_none hV
  have k_0 := h0
  have lt_0 : ∀ x ∈ p0, x.block < W.heap.size := by obtain ⟨m, hm⟩ := k_0; exact DataW.trod_lt m _ _ _ hm
  obtain ⟨a0, c0, xs0, rfl, hl0, hm0, hz0⟩ := strs_of (hval 0 22 v0 rfl rfl) h0
  have k_1 := h1
  have lt_1 : ∀ x ∈ p1, x.block < W.heap.size := by obtain ⟨m, hm⟩ := k_1; exact DataW.trod_lt m _ _ _ hm
  obtain ⟨b1, vc1, rs1, ga1, gc1, ns1, rfl, hk1, hn1, hw1, hg1, hm1, ho1⟩ := graph_of (hval 1 26 v1 rfl rfl) h1
  clear hA0 hval0
  refine (walk a0 c0 xs0 b1 vc1 rs1 ga1 gc1 ns1 W hl0 hm0 hz0 hk1 hn1 hw1 hg1 hm1 ho1).mono fun e W' ⟨he, bel⟩ => ?_
  subst he
  exact ⟨_, rfl, _, _, _, [], _, [], hW', trodAll_mk1 (shut_bool Try.underlying4 _), (trodAll_cons_mk (Below.trod laidOut (by kernel_rfl) (of_decide_eq_true (by kernel_rfl)) k_0 bel lt_0) (trodAll_cons_mk (Below.trod laidOut (by kernel_rfl) (of_decide_eq_true (by kernel_rfl)) k_1 bel lt_1) trodAll_mk0)), rfl, bel.frame _, fun h => by cases h⟩

theorem over : Rows.fnExactReachedRow.holds Try.pinned (OpenSpec.ofChange Rows.fnExactReachedSpec) :=
  OpenClaim.holds_of_wide 3 Try.f3 rfl rfl rfl rfl rfl rfl rfl ⟨rfl, rfl, rfl, rfl, rfl⟩ rfl rfl rfl rfl rfl (by kernel_rfl) Try.func3 (by kernel_rfl)
    (of_decide_eq_true (by kernel_rfl)) (by unfold Func.isWrapper; first | (rw [if_pos (by decide +kernel)]; kernel_rfl) | (rw [if_neg (by decide +kernel)]; exact ⟨rfl, rfl⟩))
    (fun os started H enc _ => lifted os started H enc)

theorem proved : Rows.FnExactReachedSaid := over
#print axioms proved
end Go.Proofs.Ythjfgibflbbgmaa.fnExactReached
