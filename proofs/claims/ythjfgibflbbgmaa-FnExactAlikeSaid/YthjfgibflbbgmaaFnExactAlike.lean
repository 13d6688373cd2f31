/-
  FnExactAlike: for every slice of texts and every two graphs the law that holds the program's Alike against the specification's Alike returns true, and the arguments read as before; no condition.
-/
import Derived.Test.YthjfgibflbbgmaaGsAl4
import Derived.Test.YthjfgibflbbgmaaTxt
import Derived.Deep.RegionHeld3
import Derived.ProofKit
import Derived.OpenShut
import Derived.ShutString
import Derived.ChangeOld
import Derived.Below
import Derived.Lib.SmallJoins
namespace Go.Proofs.Ythjfgibflbbgmaa.fnExactAlike
open Go.ChangeShapes Go.WideShapes Go.ChangeAt Go.RowKit
open kinds ints obj txt gr gs

theorem own : ownKnob Try.prog.godebug = none := by kernel_rfl
theorem laidOut : laidOutB Try.prog = true := by kernel_rfl


set_option linter.unusedVariables false in
set_option maxHeartbeats 4000000 in
set_option maxRecDepth 20000 in
theorem walk (a0 : Option Addr) (c0 : Nat) (xs0 : List ByteArray) (b1 : Option Addr) (vc1 : Nat) (rs1 : List Int) (ga1 : Option Addr) (gc1 : Nat) (ns1 : List Nd) (b2 : Option Addr) (vc2 : Nat) (rs2 : List Int) (ga2 : Option Addr) (gc2 : Nat) (ns2 : List Nd) (w : World) (hl0 : Strs w a0 xs0) (hm0 : xs0.length ≤ maxLen) (hz0 : ∀ i (hi : i < xs0.length), xs0[i].size ≤ maxLen) (hk1 : Nums w b1 rs1) (hn1 : rs1.length ≤ maxLen) (hw1 : ∀ x ∈ rs1, (Lit.int .i64 x).wf = true) (hg1 : Nodes w ga1 ns1) (hm1 : ns1.length ≤ maxLen) (ho1 : ∀ x ∈ ns1, NdOk x) (hk2 : Nums w b2 rs2) (hn2 : rs2.length ≤ maxLen) (hw2 : ∀ x ∈ rs2, (Lit.int .i64 x).wf = true) (hg2 : Nodes w ga2 ns2) (hm2 : ns2.length ≤ maxLen) (ho2 : ∀ x ∈ ns2, NdOk x) :
    Calls Try.prog 5 #[.slice a0 xs0.length c0, .agg #[.slice b1 rs1.length vc1, .slice ga1 ns1.length gc1], .agg #[.slice b2 rs2.length vc2, .slice ga2 ns2.length gc2]] w fun e w' => e = .returned (.bool true) ∧ Below w.heap.size w w' := by
  obtain ⟨W, hW⟩ : ∃ W, W = (w.alloc (.cells #[.slice b1 rs1.length vc1, .slice ga1 ns1.length gc1] 26)).alloc (.cells #[.slice b2 rs2.length vc2, .slice ga2 ns2.length gc2] 26) := ⟨_, rfl⟩
  have HB0 : Hid (Below w.heap.size w W) := by
    have h1 : Below w.heap.size w W := by rw [hW]; exact ((Below.refl _ _).alloc (Nat.le_refl _) _).alloc (by simp) _
    exact h1
  have hsz : W.heap.size = w.heap.size + 2 := by rw [hW]; simp
  have HK : Hid (∀ w', Below W.heap.size W w' → w'.cell? ⟨w.heap.size, 0, none⟩ = some (.slice b1 rs1.length vc1) ∧ w'.cell? ⟨w.heap.size, 1, none⟩ = some (.slice ga1 ns1.length gc1) ∧ w'.cell? ⟨w.heap.size + 1, 0, none⟩ = some (.slice b2 rs2.length vc2) ∧ w'.cell? ⟨w.heap.size + 1, 1, none⟩ = some (.slice ga2 ns2.length gc2)) := fun w' h =>
    ⟨by rw [h.cell (p := ⟨w.heap.size, 0, none⟩) (by show w.heap.size < _; omega), hW, World.cell?_alloc_past _ _ _ (by simp), World.cell?_alloc_at _ _ _ _ (by simp)]; rfl, by rw [h.cell (p := ⟨w.heap.size, 1, none⟩) (by show w.heap.size < _; omega), hW, World.cell?_alloc_past _ _ _ (by simp), World.cell?_alloc_at _ _ _ _ (by simp)]; rfl, by rw [h.cell (p := ⟨w.heap.size + 1, 0, none⟩) (by show w.heap.size + 1 < _; omega), hW, World.cell?_alloc_at _ _ _ _ (by simp)]; rfl, by rw [h.cell (p := ⟨w.heap.size + 1, 1, none⟩) (by show w.heap.size + 1 < _; omega), hW, World.cell?_alloc_at _ _ _ _ (by simp)]; rfl⟩
  have HW : Hid (W = (w.alloc (.cells #[.slice b1 rs1.length vc1, .slice ga1 ns1.length gc1] 26)).alloc (.cells #[.slice b2 rs2.length vc2, .slice ga2 ns2.length gc2] 26)) := hW
  have HLW : Hid (∀ w', Below W.heap.size W w' → Strs w' a0 xs0) := fun w' h => (hl0.below HB0.out).below h
  have HNW : Hid (∀ w', Below W.heap.size W w' → Nums w' b1 rs1 ∧ Nodes w' ga1 ns1) := fun w' h => ⟨(hk1.below HB0.out).below h, (hg1.below HB0.out).below h⟩
  have HNV : Hid (∀ w', Below W.heap.size W w' → Nums w' b2 rs2 ∧ Nodes w' ga2 ns2) := fun w' h => ⟨(hk2.below HB0.out).below h, (hg2.below HB0.out).below h⟩
  have HEnd : Hid (∀ w', Below W.heap.size W w' → Below w.heap.size w w') := fun w' h => HB0.out.trans (h.mono HB0.out.size)
  have HSZ : Hid (∀ w, Strs w a0 xs0 → Calls _ _ _ w _) := fun w h => szStringS_any w a0 c0 xs0 1048576 (by omega) (by omega) hm0 h hz0
  have HSO : Hid (∀ (left : Int) w, Nodes w ga1 ns1 → 0 ≤ left → left ≤ 1048576 → Calls _ _ _ w _) := fun left w q q1 q2 => szGraph_any w b1 vc1 rs1 ga1 gc1 ns1 left q1 q2 hn1 hm1 ho1 q
  have HSP : Hid (∀ (left : Int) w, Nodes w ga2 ns2 → 0 ≤ left → left ≤ 1048576 → Calls _ _ _ w _) := fun left w q q1 q2 => szGraph_any w b2 vc2 rs2 ga2 gc2 ns2 left q1 q2 hn2 hm2 ho2 q
  clear hW hl0 hk1 hz0 hw1 hm0 hn1 hg1 hm1 ho1 hk2 hw2 hn2 hg2 hm2 ho2
  go_enter Try.func5, Try.ntmps5
  go_wp2_with fail
  rw [← HW.out]
  refine (HSZ.out W (HLW.out W (Below.refl _ _))).mono ?_
  rintro e w1 ⟨r, rfl, hr0, hr1, hr2, hw⟩
  have HB_w1 : Hid (Below W.heap.size W w1) := by first | exact hw | (subst hw; exact Below.refl _ _)
  have HR1 : Hid (0 ≤ r → xs0.length ≤ 1048576 ∧ ∀ i (hi : i < xs0.length), xs0[i].size ≤ 1048576) := hr2
  clear hr2 hw
  by_cases hneg : r < 0
  · go_wp2
    go_ret
    exact ⟨rfl, HEnd.out _ HB_w1.out⟩
  obtain ⟨hn, hz⟩ := HR1.out (by omega)
  have HZ : Hid (∀ i (hi : i < xs0.length), xs0[i].size ≤ 1048576) := hz
  have HNX : Hid (xs0.length ≤ 1048576) := hn
  clear hz HR1
  obtain ⟨m0, m1, m2, m3⟩ := HK.out w1 HB_w1.out
  go_wp2_with fail
  refine (HSO.out r w1 (HNW.out w1 HB_w1.out).2 (by omega) hr1).mono ?_
  rintro e w2 ⟨r2, rfl, hs0, hs1, hs2, hb2⟩
  have HB_w2 : Hid (Below W.heap.size W w2) := HB_w1.out.trans (hb2.mono HB_w1.out.size)
  have HR2 : Hid (0 ≤ r2 → rs1.length ≤ 1048576 ∧ ns1.length ≤ 1048576 ∧ ∀ x ∈ ns1, x.2.length ≤ 1048576) := hs2
  clear hs2 hb2 m0 m1 m2 m3
  by_cases hneg2 : r2 < 0
  · go_wp2
    go_ret
    exact ⟨rfl, HEnd.out _ HB_w2.out⟩
  obtain ⟨hnr, hnn, hnz⟩ := HR2.out (by omega)
  have HNR : Hid (rs1.length ≤ 1048576) := hnr
  have HNN : Hid (ns1.length ≤ 1048576) := hnn
  have HNZ : Hid (∀ x ∈ ns1, x.2.length ≤ 1048576) := hnz
  obtain ⟨m0, m1, m2, m3⟩ := HK.out w2 HB_w2.out
  go_wp2_with fail
  refine (HSP.out r2 w2 (HNV.out w2 HB_w2.out).2 (by omega) hs1).mono ?_
  rintro e w3 ⟨r3, rfl, ht0, ht1, ht2, hb3⟩
  have HB_w3 : Hid (Below W.heap.size W w3) := HB_w2.out.trans (hb3.mono HB_w2.out.size)
  have HR3 : Hid (0 ≤ r3 → rs2.length ≤ 1048576 ∧ ns2.length ≤ 1048576 ∧ ∀ x ∈ ns2, x.2.length ≤ 1048576) := ht2
  clear ht2 hb3 m0 m1 m2 m3
  by_cases hneg3 : r3 < 0
  · go_wp2
    go_ret
    exact ⟨rfl, HEnd.out _ HB_w3.out⟩
  obtain ⟨hnr2, hnn2, hnz2⟩ := HR3.out (by omega)
  have HNR2 : Hid (rs2.length ≤ 1048576) := hnr2
  have HNN2 : Hid (ns2.length ≤ 1048576) := hnn2
  have HNZ2 : Hid (∀ x ∈ ns2, x.2.length ≤ 1048576) := hnz2
  have HS : Hid (∀ (w : World) (a0' : Option Addr) (k0' : Nat) (a1' : Option Addr) (k1' : Nat) (c1' : Option Addr) (d1' : Nat) (a2' : Option Addr) (k2' : Nat) (c2' : Option Addr) (d2' : Nat), Strs w a0' xs0 → Nums w a1' rs1 → Nodes w c1' ns1 → Nums w a2' rs2 → Nodes w c2' ns2 → _) := fun w a0' k0' a1' k1' c1' d1' a2' k2' c2' d2' q0 q1 q2 q3 q4 => spec_alike w a0' k0' xs0 a1' k1' rs1 c1' d1' ns1 a2' k2' rs2 c2' d2' ns2 HNX.out HZ.out HNR.out HNN.out HNR2.out HNN2.out q0 q1 q2 q3 q4
  have HI : Hid (∀ (w : World) (a0' : Option Addr) (k0' : Nat) (a1' : Option Addr) (k1' : Nat) (c1' : Option Addr) (d1' : Nat) (a2' : Option Addr) (k2' : Nat) (c2' : Option Addr) (d2' : Nat), Strs w a0' xs0 → Nums w a1' rs1 → Nodes w c1' ns1 → Nums w a2' rs2 → Nodes w c2' ns2 → _) := fun w a0' k0' a1' k1' c1' d1' a2' k2' c2' d2' q0 q1 q2 q3 q4 => impl_alike w a0' k0' xs0 a1' k1' rs1 c1' d1' ns1 a2' k2' rs2 c2' d2' ns2 HNX.out HZ.out HNR.out HNN.out HNR2.out HNN2.out q0 q1 q2 q3 q4
  generalize alikeB xs0 rs1 ns1 rs2 ns2 = r0 at HS HI
  have hqq0 : (r0 == r0) = true := by simp
  have hqn0 : (r0 != r0) = false := by simp
  clear hr0 hr1 hs0 hs1 hneg HR2 hn hnr hnn hnz ht0 ht1 HR3 hnr2 hnn2 hnz2
  have hacc : Below w3.heap.size w3 w3.drew := (Below.refl _ _).drew
  have HCU_w7 : Hid (∀ w', Below w3.heap.size w3 w' → Below W.heap.size W w') := fun w' h => HB_w3.out.trans (h.mono HB_w3.out.size)
  obtain ⟨m0, m1, m2, m3⟩ := HK.out w3 HB_w3.out
  go_wp2_with fail
  go_region_held3 (fun w' => w'.cell? ⟨w.heap.size, 0, none⟩ = some (.slice b1 rs1.length vc1) ∧ w'.cell? ⟨w.heap.size, 1, none⟩ = some (.slice ga1 ns1.length gc1) ∧ w'.cell? ⟨w.heap.size + 1, 0, none⟩ = some (.slice b2 rs2.length vc2) ∧ w'.cell? ⟨w.heap.size + 1, 1, none⟩ = some (.slice ga2 ns2.length gc2)) (first | with_reducible exact HK.out _ (HCU_w7.out _ hacc)) (first | (go_at_call 13; refine (toStringS_any _ a0 c0 xs0 HNX.out (HLW.out _ (HCU_w7.out _ hacc))).mono ?_; rintro e w4 ⟨gS, rfl, hgX, hgY, hlS, hrX, hbX⟩; have hac2 : Below w3.heap.size w3 w4 := hacc.trans (hbX.mono hacc.size); clear hacc hbX; have hacc := hac2; clear hac2; clear hgX hgY hrX) | (go_at_call 14; have _q := hlO; refine (toGraph_lo _ b2 vc2 rs2 ga2 gc2 ns2 HNR2.out HNN2.out HNZ2.out (HNV.out _ (HCU_w7.out _ hacc)).1 (HNV.out _ (HCU_w7.out _ hacc)).2).mono ?_; rintro e w6 ⟨gP, hP, rfl, hgX, hlP, hcP, hbX⟩; have hlS2 := hlS.below hbX; clear hlS; have hlS := hlS2; clear hlS2; have hlO2 := hlO.below hbX; clear hlO; have hlO := hlO2; clear hlO2; have hcO2 := hcO.below hbX; clear hcO; have hcO := hcO2; clear hcO2; clear _q; have hac2 : Below w3.heap.size w3 w6 := hacc.trans (hbX.mono hacc.size); clear hacc hbX; have hacc := hac2; clear hac2; clear hgX) | (go_at_call 14; refine (toGraph_lo _ b1 vc1 rs1 ga1 gc1 ns1 HNR.out HNN.out HNZ.out (HNW.out _ (HCU_w7.out _ hacc)).1 (HNW.out _ (HCU_w7.out _ hacc)).2).mono ?_; rintro e w5 ⟨gO, hO, rfl, hgX, hlO, hcO, hbX⟩; have hlS2 := hlS.below hbX; clear hlS; have hlS := hlS2; clear hlS2; have hac2 : Below w3.heap.size w3 w5 := hacc.trans (hbX.mono hacc.size); clear hacc hbX; have hacc := hac2; clear hac2; clear hgX) | (go_at_call 26; refine (HS.out _ _ _ _ _ _ _ _ _ _ _ hlS hlO.nums hcO.nodes hlP.nums hcP.nodes).mono ?_; rintro e w7 ⟨rfl, hbX⟩; have hac2 : Below w3.heap.size w3 w7 := hacc.trans (hbX.mono hacc.size); clear hacc hbX; have hacc := hac2; clear hac2; clear hlS hlO hcO hlP hcP))
  all_goals
    have SZ_w7 : Hid (w3.heap.size ≤ w7.heap.size) := hacc.size
    have HB_w7 : Hid (Below W.heap.size W w7) := HB_w3.out.trans (hacc.mono HB_w3.out.size)
    clear hacc m0 m1 m2 m3 HCU_w7 HB_w3
    go_wp2_with fail
    refine (toStringS_any w7 a0 c0 xs0 HNX.out (HLW.out _ HB_w7.out)).mono ?_
    rintro e w8 ⟨g_w8, rfl, hlo, hhi, hst, hrw, hb⟩
    have LO_X0 : Hid (w7.heap.size ≤ g_w8) := hlo
    have HI_X0 : Hid (g_w8 < w8.heap.size) := hhi
    have LW_X0 : Hid (W.heap.size ≤ g_w8) := by have h1 := HB_w7.out.size; show W.heap.size ≤ g_w8; omega
    have SZ_w8 : Hid (w7.heap.size ≤ w8.heap.size) := hb.size
    have HB_w8 : Hid (Below W.heap.size W w8) := HB_w7.out.trans (hb.mono HB_w7.out.size)
    have X0v0 : Hid (Txts w8 (some ⟨g_w8, 0, none⟩) g_w8 xs0) := txts_of hst hrw
    clear hb hlo hhi hst hrw HB_w7
    obtain ⟨m0, m1, m2, m3⟩ := HK.out w8 HB_w8.out
    go_wp2_with fail
    refine (toGraph_lo w8 b1 vc1 rs1 ga1 gc1 ns1 HNR.out HNN.out HNZ.out (HNW.out _ HB_w8.out).1 (HNW.out _ HB_w8.out).2).mono ?_
    rintro e w9 ⟨g_w9, h_w9, rfl, ⟨hlo, hmi, hhi⟩, hin, hcp, hb⟩
    have LO_X1 : Hid (w8.heap.size ≤ g_w9 ∧ g_w9 < h_w9) := ⟨hlo, hmi⟩
    have HI_X1 : Hid (h_w9 < w9.heap.size) := hhi
    have LL_X1 : Hid (W.heap.size ≤ w8.heap.size) := HB_w8.out.size
    have LW_X1 : Hid (W.heap.size ≤ g_w9) := by have h1 := HB_w8.out.size; show W.heap.size ≤ g_w9; omega
    have SZ_w9 : Hid (w8.heap.size ≤ w9.heap.size) := hb.size
    have X0v1 : Hid (Txts w9 (some ⟨g_w8, 0, none⟩) g_w8 xs0) := X0v0.out.below hb
    have HB_w9 : Hid (Below W.heap.size W w9) := HB_w8.out.trans (hb.mono HB_w8.out.size)
    obtain ⟨Y10, hY10⟩ : ∃ Y, Y = w9.alloc (.cells #[.slice (some ⟨g_w9, 0, none⟩) rs1.length rs1.length, .slice (some ⟨h_w9, 0, none⟩) ns1.length ns1.length] 33) := ⟨_, rfl⟩
    have HY10 : Hid (Y10 = w9.alloc (.cells #[.slice (some ⟨g_w9, 0, none⟩) rs1.length rs1.length, .slice (some ⟨h_w9, 0, none⟩) ns1.length ns1.length] 33)) := hY10
    have hbY10 : Below w9.heap.size w9 Y10 := by rw [hY10]; exact (Below.refl _ _).alloc (Nat.le_refl _) _
    obtain ⟨BX1, hBX1⟩ : ∃ B, B = w9.heap.size := ⟨_, rfl⟩
    have HEX1 : Hid (BX1 = w9.heap.size) := hBX1
    have X1bx : Hid (GVar BX1 g_w9 h_w9 w9.heap.size rs1 ns1 Y10) := by rw [hY10, hBX1]; exact GVar.start w9 g_w9 h_w9 rs1 ns1 _ hin hcp
    have BL_X1 : Hid (BX1 < Y10.heap.size) := X1bx.out.lt
    have BW_X1 : Hid (W.heap.size ≤ BX1) := by have h1 := HB_w9.out.size; show W.heap.size ≤ BX1; omega
    have SZ_Y10 : Hid (w9.heap.size ≤ Y10.heap.size) := hbY10.size
    have X0v2 : Hid (Txts Y10 (some ⟨g_w8, 0, none⟩) g_w8 xs0) := X0v1.out.below hbY10
    have HB_Y10 : Hid (Below W.heap.size W Y10) := HB_w9.out.trans (hbY10.mono HB_w9.out.size)
    have X1v0 : Hid (GVar BX1 g_w9 h_w9 w9.heap.size rs1 ns1 Y10) := X1bx.out
    clear hY10 hbY10 hBX1 X1bx hb hlo hmi hhi hin hcp m0 m1 m2 m3 X0v0 HB_w8 X0v1 HB_w9
    obtain ⟨m0, m1, m2, m3⟩ := HK.out Y10 HB_Y10.out
    go_wp2_with (first | (rw [← HY10.out, ← HEX1.out]) | (rw [← HY10.out]))
    try rw [← HY10.out]
    try rw [← HEX1.out]
    refine (toGraph_lo Y10 b2 vc2 rs2 ga2 gc2 ns2 HNR2.out HNN2.out HNZ2.out (HNV.out _ HB_Y10.out).1 (HNV.out _ HB_Y10.out).2).mono ?_
    rintro e w11 ⟨g_w11, h_w11, rfl, ⟨hlo, hmi, hhi⟩, hin, hcp, hb⟩
    have LO_X2 : Hid (Y10.heap.size ≤ g_w11 ∧ g_w11 < h_w11) := ⟨hlo, hmi⟩
    have HI_X2 : Hid (h_w11 < w11.heap.size) := hhi
    have LL_X2 : Hid (W.heap.size ≤ Y10.heap.size) := HB_Y10.out.size
    have LW_X2 : Hid (W.heap.size ≤ g_w11) := by have h1 := HB_Y10.out.size; show W.heap.size ≤ g_w11; omega
    have SZ_w11 : Hid (Y10.heap.size ≤ w11.heap.size) := hb.size
    have X0v3 : Hid (Txts w11 (some ⟨g_w8, 0, none⟩) g_w8 xs0) := X0v2.out.below hb
    have X1v1 : Hid (GVar BX1 g_w9 h_w9 w9.heap.size rs1 ns1 w11) := X1v0.out.below hb
    have HB_w11 : Hid (Below W.heap.size W w11) := HB_Y10.out.trans (hb.mono HB_Y10.out.size)
    obtain ⟨Y12, hY12⟩ : ∃ Y, Y = w11.alloc (.cells #[.slice (some ⟨g_w11, 0, none⟩) rs2.length rs2.length, .slice (some ⟨h_w11, 0, none⟩) ns2.length ns2.length] 33) := ⟨_, rfl⟩
    have HY12 : Hid (Y12 = w11.alloc (.cells #[.slice (some ⟨g_w11, 0, none⟩) rs2.length rs2.length, .slice (some ⟨h_w11, 0, none⟩) ns2.length ns2.length] 33)) := hY12
    have hbY12 : Below w11.heap.size w11 Y12 := by rw [hY12]; exact (Below.refl _ _).alloc (Nat.le_refl _) _
    obtain ⟨BX2, hBX2⟩ : ∃ B, B = w11.heap.size := ⟨_, rfl⟩
    have HEX2 : Hid (BX2 = w11.heap.size) := hBX2
    have X2bx : Hid (GVar BX2 g_w11 h_w11 w11.heap.size rs2 ns2 Y12) := by rw [hY12, hBX2]; exact GVar.start w11 g_w11 h_w11 rs2 ns2 _ hin hcp
    have BL_X2 : Hid (BX2 < Y12.heap.size) := X2bx.out.lt
    have BW_X2 : Hid (W.heap.size ≤ BX2) := by have h1 := HB_w11.out.size; show W.heap.size ≤ BX2; omega
    have SZ_Y12 : Hid (w11.heap.size ≤ Y12.heap.size) := hbY12.size
    have X0v4 : Hid (Txts Y12 (some ⟨g_w8, 0, none⟩) g_w8 xs0) := X0v3.out.below hbY12
    have X1v2 : Hid (GVar BX1 g_w9 h_w9 w9.heap.size rs1 ns1 Y12) := X1v1.out.below hbY12
    have HB_Y12 : Hid (Below W.heap.size W Y12) := HB_w11.out.trans (hbY12.mono HB_w11.out.size)
    have X2v0 : Hid (GVar BX2 g_w11 h_w11 w11.heap.size rs2 ns2 Y12) := X2bx.out
    clear hY12 hbY12 hBX2 X2bx hb hlo hmi hhi hin hcp m0 m1 m2 m3 X0v2 X1v0 HB_Y10 X0v3 X1v1 HB_w11
    have q0 := X1v2.out.c0
    have q1 := X1v2.out.c1
    have q2 := X2v0.out.c0
    have q3 := X2v0.out.c1
    go_wp2_with (first | (rw [← HY12.out, ← HEX2.out]) | (rw [← HY12.out]))
    try rw [← HY12.out]
    try rw [← HEX2.out]
    refine (HI.out Y12 _ _ _ _ _ _ _ _ _ _ X0v4.out.strs X1v2.out.ir.nums X1v2.out.cp.nodes X2v0.out.ir.nums X2v0.out.cp.nodes).mono ?_
    rintro e w13 ⟨rfl, hb⟩
    have SZ_w13 : Hid (Y12.heap.size ≤ w13.heap.size) := hb.size
    have X0v5 : Hid (Txts w13 (some ⟨g_w8, 0, none⟩) g_w8 xs0) := X0v4.out.below hb
    have X1v3 : Hid (GVar BX1 g_w9 h_w9 w9.heap.size rs1 ns1 w13) := X1v2.out.below hb
    have X2v1 : Hid (GVar BX2 g_w11 h_w11 w11.heap.size rs2 ns2 w13) := X2v0.out.below hb
    have HB_w13 : Hid (Below W.heap.size W w13) := HB_Y12.out.trans (hb.mono HB_Y12.out.size)
    clear hb q0 q1 q2 q3 X0v4 X1v2 X2v0 HB_Y12
    go_wp2_with fail
    refine (toStringS_any w13 a0 c0 xs0 HNX.out (HLW.out _ HB_w13.out)).mono ?_
    rintro e w14 ⟨g_w14, rfl, hlo, hhi, hst, hrw, hb⟩
    have LO_T0 : Hid (w13.heap.size ≤ g_w14) := hlo
    have HI_T0 : Hid (g_w14 < w14.heap.size) := hhi
    have LW_T0 : Hid (W.heap.size ≤ g_w14) := by have h1 := HB_w13.out.size; show W.heap.size ≤ g_w14; omega
    have SZ_w14 : Hid (w13.heap.size ≤ w14.heap.size) := hb.size
    have X0v6 : Hid (Txts w14 (some ⟨g_w8, 0, none⟩) g_w8 xs0) := X0v5.out.below hb
    have X1v4 : Hid (GVar BX1 g_w9 h_w9 w9.heap.size rs1 ns1 w14) := X1v3.out.below hb
    have X2v2 : Hid (GVar BX2 g_w11 h_w11 w11.heap.size rs2 ns2 w14) := X2v1.out.below hb
    have HB_w14 : Hid (Below W.heap.size W w14) := HB_w13.out.trans (hb.mono HB_w13.out.size)
    have T0v0 : Hid (Txts w14 (some ⟨g_w14, 0, none⟩) g_w14 xs0) := txts_of hst hrw
    clear hb hlo hhi hst hrw X0v5 X1v3 X2v1 HB_w13
    go_wp2_with fail
    refine (eqStringS_same w14 _ _ _ _ xs0 HNX.out X0v6.out.strs T0v0.out.strs).mono ?_
    rintro e w15 ⟨rfl, hb⟩
    have SZ_w15 : Hid (w14.heap.size ≤ w15.heap.size) := hb.size
    have X0v7 : Hid (Txts w15 (some ⟨g_w8, 0, none⟩) g_w8 xs0) := X0v6.out.below hb
    have X1v5 : Hid (GVar BX1 g_w9 h_w9 w9.heap.size rs1 ns1 w15) := X1v4.out.below hb
    have X2v3 : Hid (GVar BX2 g_w11 h_w11 w11.heap.size rs2 ns2 w15) := X2v2.out.below hb
    have T0v1 : Hid (Txts w15 (some ⟨g_w14, 0, none⟩) g_w14 xs0) := T0v0.out.below hb
    have HB_w15 : Hid (Below W.heap.size W w15) := HB_w14.out.trans (hb.mono HB_w14.out.size)
    clear hb X0v6 X1v4 X2v2 T0v0 HB_w14
    clear T0v1
    have hacc : Below w15.heap.size w15 w15.drew := (Below.refl _ _).drew
    have HXK : Hid (GVar BX1 g_w9 h_w9 w9.heap.size rs1 ns1 w15) := X1v5.out
    have HCK : Hid (∀ w', Below w15.heap.size w15 w' → (w'.cell? ⟨w.heap.size, 0, none⟩ = some (.slice b1 rs1.length vc1) ∧ w'.cell? ⟨w.heap.size, 1, none⟩ = some (.slice ga1 ns1.length gc1) ∧ w'.cell? ⟨w.heap.size + 1, 0, none⟩ = some (.slice b2 rs2.length vc2) ∧ w'.cell? ⟨w.heap.size + 1, 1, none⟩ = some (.slice ga2 ns2.length gc2)) ∧ w'.cell? ⟨BX1, 0, none⟩ = some (.slice (some ⟨g_w9, 0, none⟩) rs1.length rs1.length) ∧ w'.cell? ⟨BX1, 1, none⟩ = some (.slice (some ⟨h_w9, 0, none⟩) ns1.length ns1.length)) := fun w' h => ⟨HK.out w' (HB_w15.out.trans (h.mono HB_w15.out.size)), (HXK.out.below h).c0, (HXK.out.below h).c1⟩
    have HNU2 : Hid (∀ w', Below w15.heap.size w15 w' → Nums w' b1 rs1 ∧ Nodes w' ga1 ns1) := fun w' h => HNW.out _ (HB_w15.out.trans (h.mono HB_w15.out.size))
    obtain ⟨⟨m0, m1, m2, m3⟩, q0, q1⟩ := HCK.out w15 (Below.refl _ _)
    go_wp2_with fail
    go_region_held3 (fun w' => (w'.cell? ⟨w.heap.size, 0, none⟩ = some (.slice b1 rs1.length vc1) ∧ w'.cell? ⟨w.heap.size, 1, none⟩ = some (.slice ga1 ns1.length gc1) ∧ w'.cell? ⟨w.heap.size + 1, 0, none⟩ = some (.slice b2 rs2.length vc2) ∧ w'.cell? ⟨w.heap.size + 1, 1, none⟩ = some (.slice ga2 ns2.length gc2)) ∧ w'.cell? ⟨BX1, 0, none⟩ = some (.slice (some ⟨g_w9, 0, none⟩) rs1.length rs1.length) ∧ w'.cell? ⟨BX1, 1, none⟩ = some (.slice (some ⟨h_w9, 0, none⟩) ns1.length ns1.length)) (first | with_reducible exact HCK.out _ hacc) (first | (go_at_call 14; refine (toGraph_lo _ b1 vc1 rs1 ga1 gc1 ns1 HNR.out HNN.out HNZ.out (HNU2.out _ hacc).1 (HNU2.out _ hacc).2).mono ?_; rintro e w16 ⟨gO, hO, rfl, hgX, hlO, hcO, hbX⟩; have hac2 : Below w15.heap.size w15 w16 := hacc.trans (hbX.mono hacc.size); clear hacc hbX; have hacc := hac2; clear hac2; clear hgX) | (go_at_call 18; refine (eqGraph_same w16 _ _ _ _ _ _ _ _ _ _ rs1 ns1 rfl rfl HNR.out HNN.out HNZ.out (HXK.out.below hacc).ir hlO (HXK.out.below hacc).cp hcO).mono ?_; rintro e w17 ⟨rfl, hbX⟩; have hac2 : Below w15.heap.size w15 w17 := hacc.trans (hbX.mono hacc.size); clear hacc hbX; have hacc := hac2; clear hac2; clear hlO hcO))
    all_goals
      have SZ_w17 : Hid (w15.heap.size ≤ w17.heap.size) := hacc.size
      have X0v8 : Hid (Txts w17 (some ⟨g_w8, 0, none⟩) g_w8 xs0) := X0v7.out.below hacc
      have X1v6 : Hid (GVar BX1 g_w9 h_w9 w9.heap.size rs1 ns1 w17) := X1v5.out.below hacc
      have X2v4 : Hid (GVar BX2 g_w11 h_w11 w11.heap.size rs2 ns2 w17) := X2v3.out.below hacc
      have HB_w17 : Hid (Below W.heap.size W w17) := HB_w15.out.trans (hacc.mono HB_w15.out.size)
      clear hacc m0 m1 m2 m3 q0 q1 HXK HCK HNU2 X0v7 X1v5 X2v3 HB_w15
      have hacc : Below w17.heap.size w17 w17.drew := (Below.refl _ _).drew
      have HXK : Hid (GVar BX2 g_w11 h_w11 w11.heap.size rs2 ns2 w17) := X2v4.out
      have HCK : Hid (∀ w', Below w17.heap.size w17 w' → (w'.cell? ⟨w.heap.size, 0, none⟩ = some (.slice b1 rs1.length vc1) ∧ w'.cell? ⟨w.heap.size, 1, none⟩ = some (.slice ga1 ns1.length gc1) ∧ w'.cell? ⟨w.heap.size + 1, 0, none⟩ = some (.slice b2 rs2.length vc2) ∧ w'.cell? ⟨w.heap.size + 1, 1, none⟩ = some (.slice ga2 ns2.length gc2)) ∧ w'.cell? ⟨BX2, 0, none⟩ = some (.slice (some ⟨g_w11, 0, none⟩) rs2.length rs2.length) ∧ w'.cell? ⟨BX2, 1, none⟩ = some (.slice (some ⟨h_w11, 0, none⟩) ns2.length ns2.length)) := fun w' h => ⟨HK.out w' (HB_w17.out.trans (h.mono HB_w17.out.size)), (HXK.out.below h).c0, (HXK.out.below h).c1⟩
      have HNU2 : Hid (∀ w', Below w17.heap.size w17 w' → Nums w' b2 rs2 ∧ Nodes w' ga2 ns2) := fun w' h => HNV.out _ (HB_w17.out.trans (h.mono HB_w17.out.size))
      obtain ⟨⟨m0, m1, m2, m3⟩, q0, q1⟩ := HCK.out w17 (Below.refl _ _)
      go_wp2_with fail
      go_region_held3 (fun w' => (w'.cell? ⟨w.heap.size, 0, none⟩ = some (.slice b1 rs1.length vc1) ∧ w'.cell? ⟨w.heap.size, 1, none⟩ = some (.slice ga1 ns1.length gc1) ∧ w'.cell? ⟨w.heap.size + 1, 0, none⟩ = some (.slice b2 rs2.length vc2) ∧ w'.cell? ⟨w.heap.size + 1, 1, none⟩ = some (.slice ga2 ns2.length gc2)) ∧ w'.cell? ⟨BX2, 0, none⟩ = some (.slice (some ⟨g_w11, 0, none⟩) rs2.length rs2.length) ∧ w'.cell? ⟨BX2, 1, none⟩ = some (.slice (some ⟨h_w11, 0, none⟩) ns2.length ns2.length)) (first | with_reducible exact HCK.out _ hacc) (first | (go_at_call 14; refine (toGraph_lo _ b2 vc2 rs2 ga2 gc2 ns2 HNR2.out HNN2.out HNZ2.out (HNU2.out _ hacc).1 (HNU2.out _ hacc).2).mono ?_; rintro e w18 ⟨gO, hO, rfl, hgX, hlO, hcO, hbX⟩; have hac2 : Below w17.heap.size w17 w18 := hacc.trans (hbX.mono hacc.size); clear hacc hbX; have hacc := hac2; clear hac2; clear hgX) | (go_at_call 18; refine (eqGraph_same w18 _ _ _ _ _ _ _ _ _ _ rs2 ns2 rfl rfl HNR2.out HNN2.out HNZ2.out (HXK.out.below hacc).ir hlO (HXK.out.below hacc).cp hcO).mono ?_; rintro e w19 ⟨rfl, hbX⟩; have hac2 : Below w17.heap.size w17 w19 := hacc.trans (hbX.mono hacc.size); clear hacc hbX; have hacc := hac2; clear hac2; clear hlO hcO))
      all_goals
        have SZ_w19 : Hid (w17.heap.size ≤ w19.heap.size) := hacc.size
        have X0v9 : Hid (Txts w19 (some ⟨g_w8, 0, none⟩) g_w8 xs0) := X0v8.out.below hacc
        have X1v7 : Hid (GVar BX1 g_w9 h_w9 w9.heap.size rs1 ns1 w19) := X1v6.out.below hacc
        have X2v5 : Hid (GVar BX2 g_w11 h_w11 w11.heap.size rs2 ns2 w19) := X2v4.out.below hacc
        have HB_w19 : Hid (Below W.heap.size W w19) := HB_w17.out.trans (hacc.mono HB_w17.out.size)
        clear hacc m0 m1 m2 m3 q0 q1 HXK HCK HNU2 X0v8 X1v6 X2v4 HB_w17
        go_wp2
        go_ret
        exact ⟨rfl, HEnd.out _ HB_w19.out⟩

set_option maxRecDepth 100000 in
theorem lifted (os : Os) (started : os.Started) (H : Type) (enc : TypeId × Value → H) :
    ReturnsInHanded {} Try.checked os 5 .any (Rows.fnExactAlikeSpec.pre6 enc Try.prog Try.f5 Rows.fnExactAlikeRow.domain false) (Rows.fnExactAlikeSpec.post enc Try.prog Try.f5 false true false false) := by
  refine returnsInHanded_of_change (C := Try.checked) own started (by kernel_rfl) Try.func5
    (ChangeSpec.witness6 (enc := enc) (C := Try.checked) false ⟨#[], #[.slice none 0 0, .agg #[.slice none 0 0, .slice none 0 0], .agg #[.slice none 0 0, .slice none 0 0]], []⟩ 8 (by kernel_rfl) (by kernel_rfl) (by kernel_rfl) (by kernel_rfl)) ?_
  intro W base args ds gs before hval0 hW hcnd _
  have hval : ∀ (j : Nat) t v, Try.f5.params[j]? = some t → args[j]? = some v → Value.okWide Try.prog W .any base t v := hval0
  have hW' := hW
  obtain ⟨p, q, hA0, hV, rfl, hfz, hnd⟩ := hW
  have hA : DataW.TrodAll enc Try.prog W 0 (fun _ => true) true Try.f5.params.toList args.toList ds p := hA0
  rw [Try.params5] at hA hval
  obtain ⟨v0, vs_0, d0, ds0, p0, q0, hargs, rfl, rfl, h0, r0⟩ := trodAll_cons hA
  obtain ⟨v1, vs_1, d1, ds1, p1, q1, rfl, rfl, rfl, h1, r1⟩ := trodAll_cons r0
  obtain ⟨v2, vs_2, d2, ds2, p2, q2, rfl, rfl, rfl, h2, r2⟩ := trodAll_cons r1
  obtain ⟨rfl, rfl, rfl⟩ := trodAll_nil r2
  obtain rfl : args = #[v0, v1, v2] := by cases args; simp_all
  obtain ⟨rfl, rfl⟩ := trodVars_none hV
  have k_0 := h0
  have lt_0 : ∀ x ∈ p0, x.block < W.heap.size := by obtain ⟨m, hm⟩ := k_0; exact DataW.trod_lt m _ _ _ hm
  obtain ⟨a0, c0, xs0, rfl, hl0, hm0, hz0⟩ := strs_of (hval 0 22 v0 rfl rfl) h0
  have k_1 := h1
  have lt_1 : ∀ x ∈ p1, x.block < W.heap.size := by obtain ⟨m, hm⟩ := k_1; exact DataW.trod_lt m _ _ _ hm
  obtain ⟨b1, vc1, rs1, ga1, gc1, ns1, rfl, hk1, hn1, hw1, hg1, hm1, ho1⟩ := graph_of (hval 1 26 v1 rfl rfl) h1
  have k_2 := h2
  have lt_2 : ∀ x ∈ p2, x.block < W.heap.size := by obtain ⟨m, hm⟩ := k_2; exact DataW.trod_lt m _ _ _ hm
  obtain ⟨b2, vc2, rs2, ga2, gc2, ns2, rfl, hk2, hn2, hw2, hg2, hm2, ho2⟩ := graph_of (hval 2 26 v2 rfl rfl) h2
  clear hA0 hval0
  refine (walk a0 c0 xs0 b1 vc1 rs1 ga1 gc1 ns1 b2 vc2 rs2 ga2 gc2 ns2 W hl0 hm0 hz0 hk1 hn1 hw1 hg1 hm1 ho1 hk2 hn2 hw2 hg2 hm2 ho2).mono fun e W' ⟨he, bel⟩ => ?_
  subst he
  exact ⟨_, rfl, _, _, _, [], _, [], hW', trodAll_mk1 (shut_bool Try.underlying4 _), (trodAll_cons_mk (Below.trod laidOut (by kernel_rfl) (of_decide_eq_true (by kernel_rfl)) k_0 bel lt_0) (trodAll_cons_mk (Below.trod laidOut (by kernel_rfl) (of_decide_eq_true (by kernel_rfl)) k_1 bel lt_1) (trodAll_cons_mk (Below.trod laidOut (by kernel_rfl) (of_decide_eq_true (by kernel_rfl)) k_2 bel lt_2) trodAll_mk0))), rfl, bel.frame _, fun h => by cases h⟩

theorem over : Rows.fnExactAlikeRow.holds Try.pinned (OpenSpec.ofChange Rows.fnExactAlikeSpec) :=
  OpenClaim.holds_of_wide 5 Try.f5 rfl rfl rfl rfl rfl rfl rfl ⟨rfl, rfl, rfl, rfl, rfl⟩ rfl rfl rfl rfl rfl (by kernel_rfl) Try.func5 (by kernel_rfl)
    (of_decide_eq_true (by kernel_rfl)) (by unfold Func.isWrapper; first | (rw [if_pos (by decide +kernel)]; kernel_rfl) | (rw [if_neg (by decide +kernel)]; exact ⟨rfl, rfl⟩))
    (fun os started H enc _ => lifted os started H enc)

theorem proved : Rows.FnExactAlikeSaid := over
#print axioms proved
end Go.Proofs.Ythjfgibflbbgmaa.fnExactAlike
