/-
  FnExactPlain: for every slice of texts and every graph the law that holds the program's Plain against the specification's Plain returns true, and the arguments read as before; no condition.
-/
import Derived.Test.YthjfgibflbbgmaaGsPl7
import Derived.Test.YthjfgibflbbgmaaTxt
import Derived.Deep.RegionHeld3
import Derived.ProofKit
import Derived.OpenShut
import Derived.ShutString
import Derived.ChangeOld
import Derived.Below
import Derived.Lib.SmallJoins
namespace Go.Proofs.Ythjfgibflbbgmaa.fnExactPlain
open Go.ChangeShapes Go.WideShapes Go.ChangeAt Go.RowKit
open kinds ints obj txt gr gs

theorem own : ownKnob Try.prog.godebug = none := by kernel_rfl
theorem laidOut : laidOutB Try.prog = true := by kernel_rfl


set_option linter.unusedVariables false in
set_option maxHeartbeats 4000000 in
set_option maxRecDepth 20000 in
theorem walk (a0 : Option Addr) (c0 : Nat) (xs0 : List ByteArray) (b1 : Option Addr) (vc1 : Nat) (rs1 : List Int) (ga1 : Option Addr) (gc1 : Nat) (ns1 : List Nd) (w : World) (hl0 : Strs w a0 xs0) (hm0 : xs0.length ≤ maxLen) (hz0 : ∀ i (hi : i < xs0.length), xs0[i].size ≤ maxLen) (hk1 : Nums w b1 rs1) (hn1 : rs1.length ≤ maxLen) (hw1 : ∀ x ∈ rs1, (Lit.int .i64 x).wf = true) (hg1 : Nodes w ga1 ns1) (hm1 : ns1.length ≤ maxLen) (ho1 : ∀ x ∈ ns1, NdOk x) :
    Calls Try.prog 4 #[.slice a0 xs0.length c0, .agg #[.slice b1 rs1.length vc1, .slice ga1 ns1.length gc1]] w fun e w' => e = .returned (.bool true) ∧ Below w.heap.size w w' := by
  obtain ⟨W, hW⟩ : ∃ W, W = w.alloc (.cells #[.slice b1 rs1.length vc1, .slice ga1 ns1.length gc1] 26) := ⟨_, rfl⟩
  have HB0 : Hid (Below w.heap.size w W) := by
    have h1 : Below w.heap.size w W := by rw [hW]; exact (Below.refl _ _).alloc (Nat.le_refl _) _
    exact h1
  have hsz : w.heap.size < W.heap.size := by rw [hW]; simp
  have HK : Hid (∀ w', Below W.heap.size W w' → w'.cell? ⟨w.heap.size, 0, none⟩ = some (.slice b1 rs1.length vc1) ∧ w'.cell? ⟨w.heap.size, 1, none⟩ = some (.slice ga1 ns1.length gc1)) := fun w' h =>
    ⟨by rw [h.cell (p := ⟨w.heap.size, 0, none⟩) hsz, hW, World.cell?_alloc_new]; rfl, by rw [h.cell (p := ⟨w.heap.size, 1, none⟩) hsz, hW, World.cell?_alloc_new]; rfl⟩
  have HW : Hid (W = w.alloc (.cells #[.slice b1 rs1.length vc1, .slice ga1 ns1.length gc1] 26)) := hW
  have HLW : Hid (∀ w', Below W.heap.size W w' → Strs w' a0 xs0) := fun w' h => (hl0.below HB0.out).below h
  have HNW : Hid (∀ w', Below W.heap.size W w' → Nums w' b1 rs1 ∧ Nodes w' ga1 ns1) := fun w' h => ⟨(hk1.below HB0.out).below h, (hg1.below HB0.out).below h⟩
  have HEnd : Hid (∀ w', Below W.heap.size W w' → Below w.heap.size w w') := fun w' h => HB0.out.trans (h.mono HB0.out.size)
  have HSZ : Hid (∀ w, Strs w a0 xs0 → Calls _ _ _ w _) := fun w h => szStringS_any w a0 c0 xs0 1048576 (by omega) (by omega) hm0 h hz0
  have HSO : Hid (∀ (left : Int) w, Nodes w ga1 ns1 → 0 ≤ left → left ≤ 1048576 → Calls _ _ _ w _) := fun left w q q1 q2 => szGraph_any w b1 vc1 rs1 ga1 gc1 ns1 left q1 q2 hn1 hm1 ho1 q
  clear hW hl0 hk1 hz0 hw1 hm0 hn1 hg1 hm1 ho1
  go_enter Try.func4, Try.ntmps4
  go_wp2_with fail
  rw [← HW.out]
  refine (HSZ.out W (HLW.out W (Below.refl _ _))).mono ?_
  rintro e w1 ⟨r, rfl, hr0, hr1, hr2, hw⟩
  have HB_w1 : Hid (Below W.heap.size W w1) := by first | exact hw | (subst hw; exact Below.refl _ _)
  have HR1 : Hid (0 ≤ r → xs0.length ≤ 1048576 ∧ ∀ i (hi : i < xs0.length), xs0[i].size ≤ 1048576) := hr2
  clear hr2 hw
  by_cases hneg : r < 0
  · go_wp2
    go_ret
    exact ⟨rfl, HEnd.out _ HB_w1.out⟩
  obtain ⟨hn, hz⟩ := HR1.out (by omega)
  have HZ : Hid (∀ i (hi : i < xs0.length), xs0[i].size ≤ 1048576) := hz
  have HNX : Hid (xs0.length ≤ 1048576) := hn
  clear hz HR1
  obtain ⟨m0, m1⟩ := HK.out w1 HB_w1.out
  go_wp2_with fail
  refine (HSO.out r w1 (HNW.out w1 HB_w1.out).2 (by omega) hr1).mono ?_
  rintro e w2 ⟨r2, rfl, hs0, hs1, hs2, hb2⟩
  have HB_w2 : Hid (Below W.heap.size W w2) := HB_w1.out.trans (hb2.mono HB_w1.out.size)
  have HR2 : Hid (0 ≤ r2 → rs1.length ≤ 1048576 ∧ ns1.length ≤ 1048576 ∧ ∀ x ∈ ns1, x.2.length ≤ 1048576) := hs2
  clear hs2 hb2 m0 m1
  by_cases hneg2 : r2 < 0
  · go_wp2
    go_ret
    exact ⟨rfl, HEnd.out _ HB_w2.out⟩
  obtain ⟨hnr, hnn, hnz⟩ := HR2.out (by omega)
  have HNR : Hid (rs1.length ≤ 1048576) := hnr
  have HNN : Hid (ns1.length ≤ 1048576) := hnn
  have HNZ : Hid (∀ x ∈ ns1, x.2.length ≤ 1048576) := hnz
  have HS : Hid (∀ (w : World) (a0' : Option Addr) (k0' : Nat) (a1' : Option Addr) (k1' : Nat) (c1' : Option Addr) (d1' : Nat), Strs w a0' xs0 → Nums w a1' rs1 → Nodes w c1' ns1 → _) := fun w a0' k0' a1' k1' c1' d1' q0 q1 q2 => (spec_plain w a0' k0' xs0 a1' k1' rs1 c1' d1' ns1 HNX.out HZ.out HNR.out HNN.out q0 q1 q2).mono (fun _ _ h => gout_of h)
  have HI : Hid (∀ (w : World) (a0' : Option Addr) (k0' : Nat) (a1' : Option Addr) (k1' : Nat) (c1' : Option Addr) (d1' : Nat), Strs w a0' xs0 → Nums w a1' rs1 → Nodes w c1' ns1 → _) := fun w a0' k0' a1' k1' c1' d1' q0 q1 q2 => (impl_plain w a0' k0' xs0 a1' k1' rs1 c1' d1' ns1 HNX.out HZ.out HNR.out HNN.out q0 q1 q2).mono (fun _ _ h => gout_of h)
  unfold GOut at HS HI
  obtain ⟨hpr, hpn, hpz⟩ := plain_small xs0 rs1 ns1
  generalize plainR xs0 rs1 ns1 = pr at HS HI hpr
  generalize plainN xs0 rs1 ns1 = pn at HS HI hpn hpz
  have HPR : Hid (pr.length ≤ 40) := hpr
  have HPN : Hid (pn.length ≤ 400) := hpn
  have HPZ : Hid (∀ x ∈ pn, x.2.length ≤ 23) := hpz
  clear hpr hpn hpz
  clear hr0 hr1 hs0 hs1 hneg HR2 hn hnr hnn hnz
  have hacc : Below w2.heap.size w2 w2.drew := (Below.refl _ _).drew
  have HCU_w5 : Hid (∀ w', Below w2.heap.size w2 w' → Below W.heap.size W w') := fun w' h => HB_w2.out.trans (h.mono HB_w2.out.size)
  obtain ⟨m0, m1⟩ := HK.out w2 HB_w2.out
  go_upto_region 8 with fail
  go_cut [6] (fun v wx => ∃ (b : Nat) (p1 : Option Addr) (g1 k1 : Nat) (p2 : Option Addr) (k2 : Nat) (M : List En), v = .pointer (some ⟨b, 0, none⟩) ∧ PV w2.heap.size wx.heap.size b p1 g1 k1 p2 k2 pr pn M wx ∧ Below w2.heap.size w2 wx)
  case first =>
    go_region_held3 (fun w' => w'.cell? ⟨w.heap.size, 0, none⟩ = some (.slice b1 rs1.length vc1) ∧ w'.cell? ⟨w.heap.size, 1, none⟩ = some (.slice ga1 ns1.length gc1)) (first | with_reducible exact HK.out _ (HCU_w5.out _ hacc) | with_reducible exact HK.out _ (HCU_w5.out _ (hacc.alloc hacc.size _)) | exact HK.out _ (HCU_w5.out _ (hacc.alloc hacc.size _)) | exact HK.out _ (HCU_w5.out _ ((hacc.setCell (p := ⟨_, 0, none⟩) hUA _).setCell (p := ⟨_, 1, none⟩) hUA _)))
      (first | (go_at_call 13; have _p := hPR; refine (toStringS_any _ a0 c0 xs0 HNX.out (HLW.out _ (HCU_w5.out _ hacc))).mono ?_; rintro e w3 ⟨gS, rfl, hgX, hgY, hlS, hrX, hbX⟩; have hac2 : Below w2.heap.size w2 w3 := hacc.trans (hbX.mono hacc.size); have hPR2 := hPR.later hbX; clear _p hPR; have hPR := hPR2; clear hPR2; clear hacc; have hacc := hac2; clear hac2 hbX hgX hgY hrX) | (go_at_call 13; refine (toStringS_any _ a0 c0 xs0 HNX.out (HLW.out _ (HCU_w5.out _ (hacc.alloc hacc.size _)))).mono ?_; rintro e w3 ⟨gS, rfl, hgX, hgY, hlS, hrX, hbX⟩; have hac2 : Below w2.heap.size w2 w3 := (hacc.alloc hacc.size _).trans (hbX.mono (hacc.alloc hacc.size _).size); have hUA : w2.heap.size ≤ w2.heap.size := Nat.le_refl _; have hPR0 := (GP.start w2.drew 33).later hbX; have hPR : GP w2 w3 := hPR0.undrawn; clear hPR0; clear hacc; have hacc := hac2; clear hac2 hbX hgX hgY hrX) | (go_at_call 13; refine (toStringS_any _ a0 c0 xs0 HNX.out (HLW.out _ (HCU_w5.out _ hacc))).mono ?_; rintro e w3 ⟨gS, rfl, hgX, hgY, hlS, hrX, hbX⟩; have hac2 : Below w2.heap.size w2 w3 := hacc.trans (hbX.mono hacc.size); clear hacc; have hacc := hac2; clear hac2 hbX hgX hgY hrX) | (go_at_call 14; have _p := hPR; refine (toGraph_lo _ b1 vc1 rs1 ga1 gc1 ns1 HNR.out HNN.out HNZ.out (HNW.out _ (HCU_w5.out _ hacc)).1 (HNW.out _ (HCU_w5.out _ hacc)).2).mono ?_; rintro e w4 ⟨gO, hO, rfl, hgX, hlO, hcO, hbX⟩; have hac2 : Below w2.heap.size w2 w4 := hacc.trans (hbX.mono hacc.size); have hPR2 := hPR.later hbX; clear _p hPR; have hPR := hPR2; clear hPR2; have hlS2 := hlS.below hbX; clear hlS; have hlS := hlS2; clear hlS2; clear hacc; have hacc := hac2; clear hac2 hbX hgX) | (go_at_call 14; refine (toGraph_lo _ b1 vc1 rs1 ga1 gc1 ns1 HNR.out HNN.out HNZ.out (HNW.out _ (HCU_w5.out _ (hacc.alloc hacc.size _))).1 (HNW.out _ (HCU_w5.out _ (hacc.alloc hacc.size _))).2).mono ?_; rintro e w4 ⟨gO, hO, rfl, hgX, hlO, hcO, hbX⟩; have hac2 : Below w2.heap.size w2 w4 := (hacc.alloc hacc.size _).trans (hbX.mono (hacc.alloc hacc.size _).size); have hUA := hacc.size; have hPR := (GP.start _ 33).later hbX; have hlS2 := (hlS.below ((Below.refl _ _).alloc (Nat.le_refl _) _)).below hbX; clear hlS; have hlS := hlS2; clear hlS2; clear hacc; have hacc := hac2; clear hac2 hbX hgX) | (go_at_call 14; refine (toGraph_lo _ b1 vc1 rs1 ga1 gc1 ns1 HNR.out HNN.out HNZ.out (HNW.out _ (HCU_w5.out _ hacc)).1 (HNW.out _ (HCU_w5.out _ hacc)).2).mono ?_; rintro e w4 ⟨gO, hO, rfl, hgX, hlO, hcO, hbX⟩; have hac2 : Below w2.heap.size w2 w4 := hacc.trans (hbX.mono hacc.size); have hlS2 := hlS.below hbX; clear hlS; have hlS := hlS2; clear hlS2; clear hacc; have hacc := hac2; clear hac2 hbX hgX) | (go_at_call 23; have _p := hPR; refine (HS.out _ _ _ _ _ _ _ hlS hlO.nums hcO.nodes).mono ?_; rintro e w5 ⟨a_w5, g_w5, k_w5, b_w5, d_w5, L_w5, rfl, hPA, hbX⟩; have hac2 : Below w2.heap.size w2 w5 := hacc.trans (hbX.mono hacc.size); have hgT := hPR.lt; have hPR2 := hPR.later hbX; clear _p hPR; have hPR := hPR2; clear hPR2; clear hacc; have hacc := hac2; clear hac2 hbX  hlS hlO hcO; have v0 := hPR.cell 0 (by omega); have v1 := hPR.cell 1 (by omega); have z0 := hPR.free 0; have z1 := hPR.free 1) | (go_at_call 23; refine (HS.out _ _ _ _ _ _ _ (hlS.below ((Below.refl _ _).alloc (Nat.le_refl _) _)) (hlO.below ((Below.refl _ _).alloc (Nat.le_refl _) _)).nums (hcO.below ((Below.refl _ _).alloc (Nat.le_refl _) _)).nodes).mono ?_; rintro e w5 ⟨a_w5, g_w5, k_w5, b_w5, d_w5, L_w5, rfl, hPA, hbX⟩; have hac2 : Below w2.heap.size w2 w5 := (hacc.alloc hacc.size _).trans (hbX.mono (hacc.alloc hacc.size _).size); have hgT := (GP.start w4 33).lt; have hUA := hacc.size; have hPR := (GP.start _ 33).later hbX; clear hacc; have hacc := hac2; clear hac2 hbX  hlS hlO hcO; have v0 := hPR.cell 0 (by omega); have v1 := hPR.cell 1 (by omega); have z0 := hPR.free 0; have z1 := hPR.free 1) | (go_at_call 23; refine (HS.out _ _ _ _ _ _ _ hlS hlO.nums hcO.nodes).mono ?_; rintro e w5 ⟨a_w5, g_w5, k_w5, b_w5, d_w5, L_w5, rfl, hPA, hbX⟩; have hac2 : Below w2.heap.size w2 w5 := hacc.trans (hbX.mono hacc.size); have hgU := hacc.size; clear hacc; have hacc := hac2; clear hac2 hbX  hlS hlO hcO))
    all_goals
      go_wp2_with fail
      go_meet
      first
        | exact ⟨_, a_w5, g_w5, k_w5, b_w5, d_w5, L_w5, rfl, pv_put hPR hPA hUA hgT, (hacc.setCell (p := ⟨_, 0, none⟩) hUA _).setCell (p := ⟨_, 1, none⟩) hUA _⟩
        | exact ⟨_, a_w5, g_w5, k_w5, b_w5, d_w5, L_w5, rfl, pv_start w5 _ hPA hgU hacc.size, hacc.alloc hacc.size _⟩
  case rest =>
    obtain ⟨BS, a_S, g_S, k_S, b_S, d_S, L_S, rfl, hV, hU⟩ := hcut
    obtain ⟨X6, hXe⟩ : ∃ X, X = wc := ⟨_, rfl⟩
    rw [← hXe] at hV hU ⊢
    have Sbx : Hid (PV w2.heap.size X6.heap.size BS a_S g_S k_S b_S d_S pr pn L_S X6) := hV
    have SZ_X6 : Hid (w2.heap.size ≤ X6.heap.size) := hU.size
    have HB_X6 : Hid (Below W.heap.size W X6) := HB_w2.out.trans (hU.mono HB_w2.out.size)
    have Sv0 : Hid (PV w2.heap.size X6.heap.size BS a_S g_S k_S b_S d_S pr pn L_S X6) := Sbx.out
    clear hV hU hXe m0 m1 hacc Sbx HCU_w5 HB_w2
    go_wp2_with fail
    refine (toStringS_any X6 a0 c0 xs0 HNX.out (HLW.out _ HB_X6.out)).mono ?_
    rintro e w7 ⟨g_w7, rfl, hlo, hhi, hst, hrw, hb⟩
    have LO_X0 : Hid (X6.heap.size ≤ g_w7) := hlo
    have HI_X0 : Hid (g_w7 < w7.heap.size) := hhi
    have LW_X0 : Hid (W.heap.size ≤ g_w7) := by have h1 := HB_X6.out.size; show W.heap.size ≤ g_w7; omega
    have SZ_w7 : Hid (X6.heap.size ≤ w7.heap.size) := hb.size
    have Sv1 : Hid (PV w2.heap.size X6.heap.size BS a_S g_S k_S b_S d_S pr pn L_S w7) := Sv0.out.below hb
    have HB_w7 : Hid (Below W.heap.size W w7) := HB_X6.out.trans (hb.mono HB_X6.out.size)
    have X0v0 : Hid (Txts w7 (some ⟨g_w7, 0, none⟩) g_w7 xs0) := txts_of hst hrw
    clear hb hlo hhi hst hrw Sv0 HB_X6
    obtain ⟨m0, m1⟩ := HK.out w7 HB_w7.out
    go_wp2_with fail
    refine (toGraph_lo w7 b1 vc1 rs1 ga1 gc1 ns1 HNR.out HNN.out HNZ.out (HNW.out _ HB_w7.out).1 (HNW.out _ HB_w7.out).2).mono ?_
    rintro e w8 ⟨g_w8, h_w8, rfl, ⟨hlo, hmi, hhi⟩, hin, hcp, hb⟩
    have LO_X1 : Hid (w7.heap.size ≤ g_w8 ∧ g_w8 < h_w8) := ⟨hlo, hmi⟩
    have HI_X1 : Hid (h_w8 < w8.heap.size) := hhi
    have LL_X1 : Hid (W.heap.size ≤ w7.heap.size) := HB_w7.out.size
    have LW_X1 : Hid (W.heap.size ≤ g_w8) := by have h1 := HB_w7.out.size; show W.heap.size ≤ g_w8; omega
    have SZ_w8 : Hid (w7.heap.size ≤ w8.heap.size) := hb.size
    have Sv2 : Hid (PV w2.heap.size X6.heap.size BS a_S g_S k_S b_S d_S pr pn L_S w8) := Sv1.out.below hb
    have X0v1 : Hid (Txts w8 (some ⟨g_w7, 0, none⟩) g_w7 xs0) := X0v0.out.below hb
    have HB_w8 : Hid (Below W.heap.size W w8) := HB_w7.out.trans (hb.mono HB_w7.out.size)
    obtain ⟨Y9, hY9⟩ : ∃ Y, Y = w8.alloc (.cells #[.slice (some ⟨g_w8, 0, none⟩) rs1.length rs1.length, .slice (some ⟨h_w8, 0, none⟩) ns1.length ns1.length] 33) := ⟨_, rfl⟩
    have HY9 : Hid (Y9 = w8.alloc (.cells #[.slice (some ⟨g_w8, 0, none⟩) rs1.length rs1.length, .slice (some ⟨h_w8, 0, none⟩) ns1.length ns1.length] 33)) := hY9
    have hbY9 : Below w8.heap.size w8 Y9 := by rw [hY9]; exact (Below.refl _ _).alloc (Nat.le_refl _) _
    obtain ⟨BX1, hBX1⟩ : ∃ B, B = w8.heap.size := ⟨_, rfl⟩
    have HEX1 : Hid (BX1 = w8.heap.size) := hBX1
    have X1bx : Hid (GVar BX1 g_w8 h_w8 w8.heap.size rs1 ns1 Y9) := by rw [hY9, hBX1]; exact GVar.start w8 g_w8 h_w8 rs1 ns1 _ hin hcp
    have BL_X1 : Hid (BX1 < Y9.heap.size) := X1bx.out.lt
    have BW_X1 : Hid (W.heap.size ≤ BX1) := by have h1 := HB_w8.out.size; show W.heap.size ≤ BX1; omega
    have SZ_Y9 : Hid (w8.heap.size ≤ Y9.heap.size) := hbY9.size
    have Sv3 : Hid (PV w2.heap.size X6.heap.size BS a_S g_S k_S b_S d_S pr pn L_S Y9) := Sv2.out.below hbY9
    have X0v2 : Hid (Txts Y9 (some ⟨g_w7, 0, none⟩) g_w7 xs0) := X0v1.out.below hbY9
    have HB_Y9 : Hid (Below W.heap.size W Y9) := HB_w8.out.trans (hbY9.mono HB_w8.out.size)
    have X1v0 : Hid (GVar BX1 g_w8 h_w8 w8.heap.size rs1 ns1 Y9) := X1bx.out
    clear hY9 hbY9 hBX1 X1bx hb hlo hmi hhi hin hcp m0 m1 Sv1 X0v0 HB_w7 Sv2 X0v1 HB_w8
    have q0 := X1v0.out.c0
    have q1 := X1v0.out.c1
    go_wp2_with (first | (rw [← HY9.out, ← HEX1.out]) | (rw [← HY9.out]))
    try rw [← HY9.out]
    try rw [← HEX1.out]
    refine (HI.out Y9 _ _ _ _ _ _ X0v2.out.strs X1v0.out.ir.nums X1v0.out.cp.nodes).mono ?_
    rintro e w10 ⟨a_G, g_G, k_G, b_G, d_G, L_G, rfl, hPA, hb⟩
    have Gp0 : Hid (PA Y9.heap.size a_G g_G b_G d_G pr pn L_G w10) := hPA
    have LW_G : Hid (W.heap.size ≤ Y9.heap.size) := by have h1 := HB_Y9.out.size; show W.heap.size ≤ Y9.heap.size; omega
    have SZ_w10 : Hid (Y9.heap.size ≤ w10.heap.size) := hb.size
    have Sv4 : Hid (PV w2.heap.size X6.heap.size BS a_S g_S k_S b_S d_S pr pn L_S w10) := Sv3.out.below hb
    have X0v3 : Hid (Txts w10 (some ⟨g_w7, 0, none⟩) g_w7 xs0) := X0v2.out.below hb
    have X1v1 : Hid (GVar BX1 g_w8 h_w8 w8.heap.size rs1 ns1 w10) := X1v0.out.below hb
    have HB_w10 : Hid (Below W.heap.size W w10) := HB_Y9.out.trans (hb.mono HB_Y9.out.size)
    obtain ⟨Y11, hY11⟩ : ∃ Y, Y = w10.alloc (.cells #[.slice a_G pr.length k_G, .slice b_G pn.length d_G] 33) := ⟨_, rfl⟩
    have HY11 : Hid (Y11 = w10.alloc (.cells #[.slice a_G pr.length k_G, .slice b_G pn.length d_G] 33)) := hY11
    have hbY11 : Below w10.heap.size w10 Y11 := by rw [hY11]; exact (Below.refl _ _).alloc (Nat.le_refl _) _
    obtain ⟨BG, hBG⟩ : ∃ B, B = w10.heap.size := ⟨_, rfl⟩
    have HEG : Hid (BG = w10.heap.size) := hBG
    have Gbx : Hid (PV Y9.heap.size Y11.heap.size BG a_G g_G k_G b_G d_G pr pn L_G Y11) := by rw [hY11, hBG]; exact pv_start w10 _ Gp0.out (Nat.le_refl _) hb.size
    have SZ_Y11 : Hid (w10.heap.size ≤ Y11.heap.size) := hbY11.size
    have Sv5 : Hid (PV w2.heap.size X6.heap.size BS a_S g_S k_S b_S d_S pr pn L_S Y11) := Sv4.out.below hbY11
    have X0v4 : Hid (Txts Y11 (some ⟨g_w7, 0, none⟩) g_w7 xs0) := X0v3.out.below hbY11
    have X1v2 : Hid (GVar BX1 g_w8 h_w8 w8.heap.size rs1 ns1 Y11) := X1v1.out.below hbY11
    have HB_Y11 : Hid (Below W.heap.size W Y11) := HB_w10.out.trans (hbY11.mono HB_w10.out.size)
    have Gv0 : Hid (PV Y9.heap.size Y11.heap.size BG a_G g_G k_G b_G d_G pr pn L_G Y11) := Gbx.out
    clear hY11 hbY11 hBG Gbx Gp0 hb hPA q0 q1 Sv3 X0v2 X1v0 HB_Y9 Sv4 X0v3 X1v1 HB_w10
    have p0 := Gv0.out.c0
    have p1 := Gv0.out.c1
    have q0 := Sv5.out.c0
    have q1 := Sv5.out.c1
    go_wp2_with (first | (rw [← HY11.out, ← HEG.out]) | (rw [← HY11.out]))
    try rw [← HY11.out]
    try rw [← HEG.out]
    refine (pv_same Y11 Gv0.out Sv5.out HPR.out HPN.out HPZ.out).mono ?_
    rintro e w12 ⟨rfl, hb⟩
    have SZ_w12 : Hid (Y11.heap.size ≤ w12.heap.size) := hb.size
    have Sv6 : Hid (PV w2.heap.size X6.heap.size BS a_S g_S k_S b_S d_S pr pn L_S w12) := Sv5.out.below hb
    have X0v5 : Hid (Txts w12 (some ⟨g_w7, 0, none⟩) g_w7 xs0) := X0v4.out.below hb
    have X1v3 : Hid (GVar BX1 g_w8 h_w8 w8.heap.size rs1 ns1 w12) := X1v2.out.below hb
    have Gv1 : Hid (PV Y9.heap.size Y11.heap.size BG a_G g_G k_G b_G d_G pr pn L_G w12) := Gv0.out.below hb
    have HB_w12 : Hid (Below W.heap.size W w12) := HB_Y11.out.trans (hb.mono HB_Y11.out.size)
    clear hb p0 p1 q0 q1 Sv5 X0v4 X1v2 Gv0 HB_Y11
    go_wp2_with fail
    refine (toStringS_any w12 a0 c0 xs0 HNX.out (HLW.out _ HB_w12.out)).mono ?_
    rintro e w13 ⟨g_w13, rfl, hlo, hhi, hst, hrw, hb⟩
    have LO_T0 : Hid (w12.heap.size ≤ g_w13) := hlo
    have HI_T0 : Hid (g_w13 < w13.heap.size) := hhi
    have LW_T0 : Hid (W.heap.size ≤ g_w13) := by have h1 := HB_w12.out.size; show W.heap.size ≤ g_w13; omega
    have SZ_w13 : Hid (w12.heap.size ≤ w13.heap.size) := hb.size
    have Sv7 : Hid (PV w2.heap.size X6.heap.size BS a_S g_S k_S b_S d_S pr pn L_S w13) := Sv6.out.below hb
    have X0v6 : Hid (Txts w13 (some ⟨g_w7, 0, none⟩) g_w7 xs0) := X0v5.out.below hb
    have X1v4 : Hid (GVar BX1 g_w8 h_w8 w8.heap.size rs1 ns1 w13) := X1v3.out.below hb
    have Gv2 : Hid (PV Y9.heap.size Y11.heap.size BG a_G g_G k_G b_G d_G pr pn L_G w13) := Gv1.out.below hb
    have HB_w13 : Hid (Below W.heap.size W w13) := HB_w12.out.trans (hb.mono HB_w12.out.size)
    have T0v0 : Hid (Txts w13 (some ⟨g_w13, 0, none⟩) g_w13 xs0) := txts_of hst hrw
    clear hb hlo hhi hst hrw Sv6 X0v5 X1v3 Gv1 HB_w12
    go_wp2_with fail
    refine (eqStringS_same w13 _ _ _ _ xs0 HNX.out X0v6.out.strs T0v0.out.strs).mono ?_
    rintro e w14 ⟨rfl, hb⟩
    have SZ_w14 : Hid (w13.heap.size ≤ w14.heap.size) := hb.size
    have Sv8 : Hid (PV w2.heap.size X6.heap.size BS a_S g_S k_S b_S d_S pr pn L_S w14) := Sv7.out.below hb
    have X0v7 : Hid (Txts w14 (some ⟨g_w7, 0, none⟩) g_w7 xs0) := X0v6.out.below hb
    have X1v5 : Hid (GVar BX1 g_w8 h_w8 w8.heap.size rs1 ns1 w14) := X1v4.out.below hb
    have Gv3 : Hid (PV Y9.heap.size Y11.heap.size BG a_G g_G k_G b_G d_G pr pn L_G w14) := Gv2.out.below hb
    have T0v1 : Hid (Txts w14 (some ⟨g_w13, 0, none⟩) g_w13 xs0) := T0v0.out.below hb
    have HB_w14 : Hid (Below W.heap.size W w14) := HB_w13.out.trans (hb.mono HB_w13.out.size)
    clear hb Sv7 X0v6 X1v4 Gv2 T0v0 HB_w13
    clear T0v1
    have hacc : Below w14.heap.size w14 w14.drew := (Below.refl _ _).drew
    have HXK : Hid (GVar BX1 g_w8 h_w8 w8.heap.size rs1 ns1 w14) := X1v5.out
    have HCK : Hid (∀ w', Below w14.heap.size w14 w' → (w'.cell? ⟨w.heap.size, 0, none⟩ = some (.slice b1 rs1.length vc1) ∧ w'.cell? ⟨w.heap.size, 1, none⟩ = some (.slice ga1 ns1.length gc1)) ∧ w'.cell? ⟨BX1, 0, none⟩ = some (.slice (some ⟨g_w8, 0, none⟩) rs1.length rs1.length) ∧ w'.cell? ⟨BX1, 1, none⟩ = some (.slice (some ⟨h_w8, 0, none⟩) ns1.length ns1.length)) := fun w' h => ⟨HK.out w' (HB_w14.out.trans (h.mono HB_w14.out.size)), (HXK.out.below h).c0, (HXK.out.below h).c1⟩
    have HNU2 : Hid (∀ w', Below w14.heap.size w14 w' → Nums w' b1 rs1 ∧ Nodes w' ga1 ns1) := fun w' h => HNW.out _ (HB_w14.out.trans (h.mono HB_w14.out.size))
    obtain ⟨⟨m0, m1⟩, q0, q1⟩ := HCK.out w14 (Below.refl _ _)
    go_wp2_with fail
    go_region_held3 (fun w' => (w'.cell? ⟨w.heap.size, 0, none⟩ = some (.slice b1 rs1.length vc1) ∧ w'.cell? ⟨w.heap.size, 1, none⟩ = some (.slice ga1 ns1.length gc1)) ∧ w'.cell? ⟨BX1, 0, none⟩ = some (.slice (some ⟨g_w8, 0, none⟩) rs1.length rs1.length) ∧ w'.cell? ⟨BX1, 1, none⟩ = some (.slice (some ⟨h_w8, 0, none⟩) ns1.length ns1.length)) (first | with_reducible exact HCK.out _ hacc) (first | (go_at_call 14; refine (toGraph_lo _ b1 vc1 rs1 ga1 gc1 ns1 HNR.out HNN.out HNZ.out (HNU2.out _ hacc).1 (HNU2.out _ hacc).2).mono ?_; rintro e w15 ⟨gO, hO, rfl, hgX, hlO, hcO, hbX⟩; have hac2 : Below w14.heap.size w14 w15 := hacc.trans (hbX.mono hacc.size); clear hacc hbX; have hacc := hac2; clear hac2; clear hgX) | (go_at_call 18; refine (eqGraph_same w15 _ _ _ _ _ _ _ _ _ _ rs1 ns1 rfl rfl HNR.out HNN.out HNZ.out (HXK.out.below hacc).ir hlO (HXK.out.below hacc).cp hcO).mono ?_; rintro e w16 ⟨rfl, hbX⟩; have hac2 : Below w14.heap.size w14 w16 := hacc.trans (hbX.mono hacc.size); clear hacc hbX; have hacc := hac2; clear hac2; clear hlO hcO))
    all_goals
      have SZ_w16 : Hid (w14.heap.size ≤ w16.heap.size) := hacc.size
      have Sv9 : Hid (PV w2.heap.size X6.heap.size BS a_S g_S k_S b_S d_S pr pn L_S w16) := Sv8.out.below hacc
      have X0v8 : Hid (Txts w16 (some ⟨g_w7, 0, none⟩) g_w7 xs0) := X0v7.out.below hacc
      have X1v6 : Hid (GVar BX1 g_w8 h_w8 w8.heap.size rs1 ns1 w16) := X1v5.out.below hacc
      have Gv4 : Hid (PV Y9.heap.size Y11.heap.size BG a_G g_G k_G b_G d_G pr pn L_G w16) := Gv3.out.below hacc
      have HB_w16 : Hid (Below W.heap.size W w16) := HB_w14.out.trans (hacc.mono HB_w14.out.size)
      clear hacc m0 m1 q0 q1 HXK HCK HNU2 Sv8 X0v7 X1v5 Gv3 HB_w14
      go_wp2_with fail
      refine (markStringS_any w16 _ g_w7 xs0.length _ xs0 1 rfl X0v8.out HNX.out (by omega) (by omega)).mono ?_
      rintro e w17 ⟨rfl, hg, hm⟩
      have Sv10 : Hid (PV w2.heap.size X6.heap.size BS a_S g_S k_S b_S d_S pr pn L_S w17) := Sv9.out.grown hg (by have o0 := SZ_X6.out; have o1 := SZ_w7.out; have o2 := LO_X0.out; have o3 := HI_X0.out; have o4 := SZ_w8.out; have o5 := LO_X1.out; have o6 := HI_X1.out; have o7 := SZ_Y9.out; have o8 := HEX1.out; have o9 := BL_X1.out; have o10 := SZ_w10.out; have o11 := SZ_Y11.out; have o12 := HEG.out; have o13 := SZ_w12.out; have o14 := SZ_w13.out; have o15 := LO_T0.out; have o16 := HI_T0.out; have o17 := SZ_w14.out; have o18 := SZ_w16.out; omega)
      have X1v7 : Hid (GVar BX1 g_w8 h_w8 w8.heap.size rs1 ns1 w17) := X1v6.out.span (Sp.grown (lo := g_w7) (hi := g_w7 + 1) hg (Nat.le_refl _) (Nat.lt_succ_self _)) (by have o0 := SZ_X6.out; have o1 := SZ_w7.out; have o2 := LO_X0.out; have o3 := HI_X0.out; have o4 := SZ_w8.out; have o5 := LO_X1.out; have o6 := HI_X1.out; have o7 := SZ_Y9.out; have o8 := HEX1.out; have o9 := BL_X1.out; have o10 := SZ_w10.out; have o11 := SZ_Y11.out; have o12 := HEG.out; have o13 := SZ_w12.out; have o14 := SZ_w13.out; have o15 := LO_T0.out; have o16 := HI_T0.out; have o17 := SZ_w14.out; have o18 := SZ_w16.out; omega) (fun _ => by have o0 := SZ_X6.out; have o1 := SZ_w7.out; have o2 := LO_X0.out; have o3 := HI_X0.out; have o4 := SZ_w8.out; have o5 := LO_X1.out; have o6 := HI_X1.out; have o7 := SZ_Y9.out; have o8 := HEX1.out; have o9 := BL_X1.out; have o10 := SZ_w10.out; have o11 := SZ_Y11.out; have o12 := HEG.out; have o13 := SZ_w12.out; have o14 := SZ_w13.out; have o15 := LO_T0.out; have o16 := HI_T0.out; have o17 := SZ_w14.out; have o18 := SZ_w16.out; omega) (fun _ => by have o0 := SZ_X6.out; have o1 := SZ_w7.out; have o2 := LO_X0.out; have o3 := HI_X0.out; have o4 := SZ_w8.out; have o5 := LO_X1.out; have o6 := HI_X1.out; have o7 := SZ_Y9.out; have o8 := HEX1.out; have o9 := BL_X1.out; have o10 := SZ_w10.out; have o11 := SZ_Y11.out; have o12 := HEG.out; have o13 := SZ_w12.out; have o14 := SZ_w13.out; have o15 := LO_T0.out; have o16 := HI_T0.out; have o17 := SZ_w14.out; have o18 := SZ_w16.out; omega)
      have Gv5 : Hid (PV Y9.heap.size Y11.heap.size BG a_G g_G k_G b_G d_G pr pn L_G w17) := Gv4.out.grown hg (by have o0 := SZ_X6.out; have o1 := SZ_w7.out; have o2 := LO_X0.out; have o3 := HI_X0.out; have o4 := SZ_w8.out; have o5 := LO_X1.out; have o6 := HI_X1.out; have o7 := SZ_Y9.out; have o8 := HEX1.out; have o9 := BL_X1.out; have o10 := SZ_w10.out; have o11 := SZ_Y11.out; have o12 := HEG.out; have o13 := SZ_w12.out; have o14 := SZ_w13.out; have o15 := LO_T0.out; have o16 := HI_T0.out; have o17 := SZ_w14.out; have o18 := SZ_w16.out; omega)
      have SZ_w17 : Hid (w16.heap.size ≤ w17.heap.size) := hg.size
      have HB_w17 : Hid (Below W.heap.size W w17) := HB_w16.out.trans (below_of_grown hg HB_w16.out.size LW_X0.out)
      clear hg hm Sv9 X0v8 X1v6 Gv4 HB_w16
      obtain ⟨kk0, hkk0⟩ : ∃ k : Nat, k = 1 + xs0.length := ⟨_, rfl⟩
      have hkb0 : kk0 ≤ 1048577 ∧ 0 < kk0 := by have := HNX.out; omega
      rw [← hkk0]
      clear hkk0
      obtain ⟨hkl0, hkp0⟩ := hkb0
      have q0 := X1v7.out.c0
      have q1 := X1v7.out.c1
      go_wp2_with fail
      refine (markGraph_any w17 g_w8 h_w8 w7.heap.size w8.heap.size kk0 rs1 ns1 HNR.out HNN.out HNZ.out X1v7.out.ir X1v7.out.cp X1v7.out.bd (by have o0 := SZ_X6.out; have o1 := SZ_w7.out; have o2 := LO_X0.out; have o3 := HI_X0.out; have o4 := SZ_w8.out; have o5 := LO_X1.out; have o6 := HI_X1.out; have o7 := SZ_Y9.out; have o8 := HEX1.out; have o9 := BL_X1.out; have o10 := SZ_w10.out; have o11 := SZ_Y11.out; have o12 := HEG.out; have o13 := SZ_w12.out; have o14 := SZ_w13.out; have o15 := LO_T0.out; have o16 := HI_T0.out; have o17 := SZ_w14.out; have o18 := SZ_w16.out; have o19 := SZ_w17.out; omega) (by have o0 := SZ_X6.out; have o1 := SZ_w7.out; have o2 := LO_X0.out; have o3 := HI_X0.out; have o4 := SZ_w8.out; have o5 := LO_X1.out; have o6 := HI_X1.out; have o7 := SZ_Y9.out; have o8 := HEX1.out; have o9 := BL_X1.out; have o10 := SZ_w10.out; have o11 := SZ_Y11.out; have o12 := HEG.out; have o13 := SZ_w12.out; have o14 := SZ_w13.out; have o15 := LO_T0.out; have o16 := HI_T0.out; have o17 := SZ_w14.out; have o18 := SZ_w16.out; have o19 := SZ_w17.out; omega) (by have o0 := SZ_X6.out; have o1 := SZ_w7.out; have o2 := LO_X0.out; have o3 := HI_X0.out; have o4 := SZ_w8.out; have o5 := LO_X1.out; have o6 := HI_X1.out; have o7 := SZ_Y9.out; have o8 := HEX1.out; have o9 := BL_X1.out; have o10 := SZ_w10.out; have o11 := SZ_Y11.out; have o12 := HEG.out; have o13 := SZ_w12.out; have o14 := SZ_w13.out; have o15 := LO_T0.out; have o16 := HI_T0.out; have o17 := SZ_w14.out; have o18 := SZ_w16.out; have o19 := SZ_w17.out; omega) (by have o0 := SZ_X6.out; have o1 := SZ_w7.out; have o2 := LO_X0.out; have o3 := HI_X0.out; have o4 := SZ_w8.out; have o5 := LO_X1.out; have o6 := HI_X1.out; have o7 := SZ_Y9.out; have o8 := HEX1.out; have o9 := BL_X1.out; have o10 := SZ_w10.out; have o11 := SZ_Y11.out; have o12 := HEG.out; have o13 := SZ_w12.out; have o14 := SZ_w13.out; have o15 := LO_T0.out; have o16 := HI_T0.out; have o17 := SZ_w14.out; have o18 := SZ_w16.out; have o19 := SZ_w17.out; omega) (by omega)).mono ?_
      rintro e w18 ⟨kk1, rfl, hkl1, hg⟩
      have Sv11 : Hid (PV w2.heap.size X6.heap.size BS a_S g_S k_S b_S d_S pr pn L_S w18) := Sv10.out.span hg (by have o0 := SZ_X6.out; have o1 := SZ_w7.out; have o2 := LO_X0.out; have o3 := HI_X0.out; have o4 := SZ_w8.out; have o5 := LO_X1.out; have o6 := HI_X1.out; have o7 := SZ_Y9.out; have o8 := HEX1.out; have o9 := BL_X1.out; have o10 := SZ_w10.out; have o11 := SZ_Y11.out; have o12 := HEG.out; have o13 := SZ_w12.out; have o14 := SZ_w13.out; have o15 := LO_T0.out; have o16 := HI_T0.out; have o17 := SZ_w14.out; have o18 := SZ_w16.out; have o19 := SZ_w17.out; omega)
      have Gv6 : Hid (PV Y9.heap.size Y11.heap.size BG a_G g_G k_G b_G d_G pr pn L_G w18) := Gv5.out.span hg (by have o0 := SZ_X6.out; have o1 := SZ_w7.out; have o2 := LO_X0.out; have o3 := HI_X0.out; have o4 := SZ_w8.out; have o5 := LO_X1.out; have o6 := HI_X1.out; have o7 := SZ_Y9.out; have o8 := HEX1.out; have o9 := BL_X1.out; have o10 := SZ_w10.out; have o11 := SZ_Y11.out; have o12 := HEG.out; have o13 := SZ_w12.out; have o14 := SZ_w13.out; have o15 := LO_T0.out; have o16 := HI_T0.out; have o17 := SZ_w14.out; have o18 := SZ_w16.out; have o19 := SZ_w17.out; omega)
      have SZ_w18 : Hid (w17.heap.size ≤ w18.heap.size) := hg.2.2.2.1
      have HB_w18 : Hid (Below W.heap.size W w18) := HB_w17.out.trans (hg.low LL_X1.out HB_w17.out.size)
      clear hg q0 q1 Sv10 X1v7 Gv5 HB_w17
      have hkn : ¬ (kk1 : Int) < 0 := by omega
      have p0 := Gv6.out.c0
      have p1 := Gv6.out.c1
      have q0 := Sv11.out.c0
      have q1 := Sv11.out.c1
      go_wp2_with fail
      refine (pv_same w18 Gv6.out Sv11.out HPR.out HPN.out HPZ.out).mono ?_
      rintro e w19 ⟨rfl, hb⟩
      have SZ_w19 : Hid (w18.heap.size ≤ w19.heap.size) := hb.size
      have Sv12 : Hid (PV w2.heap.size X6.heap.size BS a_S g_S k_S b_S d_S pr pn L_S w19) := Sv11.out.below hb
      have Gv7 : Hid (PV Y9.heap.size Y11.heap.size BG a_G g_G k_G b_G d_G pr pn L_G w19) := Gv6.out.below hb
      have HB_w19 : Hid (Below W.heap.size W w19) := HB_w18.out.trans (hb.mono HB_w18.out.size)
      clear hb p0 p1 q0 q1 Sv11 Gv6 HB_w18
      clear hkn
      have q0 := Gv7.out.c0
      have q1 := Gv7.out.c1
      go_wp2_with fail
      obtain ⟨km, hkm⟩ : ∃ km : Int, km = ((cnt (1 + pr.length) L_G pn.length : Nat) : Int) := ⟨_, rfl⟩
      have HKM : Hid (km = ((cnt (1 + pr.length) L_G pn.length : Nat) : Int)) := hkm
      have hq0 : (km != km) = false := by simp
      have hq1 : ¬ km < 0 := by omega
      clear hkm
      have HLN : Hid (L_G.length = pn.length) := Gv7.out.pa.ln
      have HLZ : Hid (∀ e ∈ L_G, e.2.2.2.length ≤ 23) := Gv7.out.small HPZ.out
      refine (pv_mark w19 Gv7.out HPR.out HPN.out HPZ.out).mono ?_
      rintro e w20 ⟨rfl, hm, hg⟩
      rw [← HKM.out]
      have Sv13 : Hid (PV w2.heap.size X6.heap.size BS a_S g_S k_S b_S d_S pr pn L_S w20) := Sv12.out.under hg (by have o0 := SZ_X6.out; have o1 := SZ_w7.out; have o2 := LO_X0.out; have o3 := HI_X0.out; have o4 := SZ_w8.out; have o5 := LO_X1.out; have o6 := HI_X1.out; have o7 := SZ_Y9.out; have o8 := HEX1.out; have o9 := BL_X1.out; have o10 := SZ_w10.out; have o11 := SZ_Y11.out; have o12 := HEG.out; have o13 := SZ_w12.out; have o14 := SZ_w13.out; have o15 := LO_T0.out; have o16 := HI_T0.out; have o17 := SZ_w14.out; have o18 := SZ_w16.out; have o19 := SZ_w17.out; have o20 := SZ_w18.out; have o21 := SZ_w19.out; omega)
      have SZ_w20 : Hid (w19.heap.size ≤ w20.heap.size) := hg.size
      have HB_w20 : Hid (Below W.heap.size W w20) := HB_w19.out.trans (hg.mono LW_G.out)
      have Gv8 : Hid (PM BG a_G g_G k_G b_G d_G pr.length pn.length L_G w20) := hm
      clear hg hm q0 q1 Sv12 Gv7 HB_w19
      have q0 := Gv8.out.c0
      have q1 := Gv8.out.c1
      go_wp2_with fail
      refine (pm_held w20 Gv8.out HLN.out HPR.out HPN.out HLZ.out).mono ?_
      rintro e w21 ⟨rfl, hb⟩
      rw [← HKM.out]
      have SZ_w21 : Hid (w20.heap.size ≤ w21.heap.size) := hb.size
      have Sv14 : Hid (PV w2.heap.size X6.heap.size BS a_S g_S k_S b_S d_S pr pn L_S w21) := Sv13.out.below hb
      have Gv9 : Hid (PM BG a_G g_G k_G b_G d_G pr.length pn.length L_G w21) := Gv8.out.below hb
      have HB_w21 : Hid (Below W.heap.size W w21) := HB_w20.out.trans (hb.mono HB_w20.out.size)
      clear hb q0 q1 Sv13 Gv8 HB_w20
      have hacc : Below w21.heap.size w21 w21.drew := (Below.refl _ _).drew
      have HCU_w24 : Hid (∀ w', Below w21.heap.size w21 w' → Below W.heap.size W w') := fun w' h => HB_w21.out.trans (h.mono HB_w21.out.size)
      obtain ⟨m0, m1⟩ := HK.out w21 HB_w21.out
      go_upto_region 31 with fail
      go_cut [13] (fun v wx => ∃ (b : Nat) (p1 : Option Addr) (g1 k1 : Nat) (p2 : Option Addr) (k2 : Nat) (M : List En), v = .pointer (some ⟨b, 0, none⟩) ∧ PV w21.heap.size wx.heap.size b p1 g1 k1 p2 k2 pr pn M wx ∧ Below w21.heap.size w21 wx)
      case first =>
        go_region_held3 (fun w' => w'.cell? ⟨w.heap.size, 0, none⟩ = some (.slice b1 rs1.length vc1) ∧ w'.cell? ⟨w.heap.size, 1, none⟩ = some (.slice ga1 ns1.length gc1)) (first | with_reducible exact HK.out _ (HCU_w24.out _ hacc) | with_reducible exact HK.out _ (HCU_w24.out _ (hacc.alloc hacc.size _)) | exact HK.out _ (HCU_w24.out _ (hacc.alloc hacc.size _)) | exact HK.out _ (HCU_w24.out _ ((hacc.setCell (p := ⟨_, 0, none⟩) hUA _).setCell (p := ⟨_, 1, none⟩) hUA _)))
          (first | (go_at_call 13; have _p := hPR; refine (toStringS_any _ a0 c0 xs0 HNX.out (HLW.out _ (HCU_w24.out _ hacc))).mono ?_; rintro e w22 ⟨gS, rfl, hgX, hgY, hlS, hrX, hbX⟩; have hac2 : Below w21.heap.size w21 w22 := hacc.trans (hbX.mono hacc.size); have hPR2 := hPR.later hbX; clear _p hPR; have hPR := hPR2; clear hPR2; clear hacc; have hacc := hac2; clear hac2 hbX hgX hgY hrX) | (go_at_call 13; refine (toStringS_any _ a0 c0 xs0 HNX.out (HLW.out _ (HCU_w24.out _ (hacc.alloc hacc.size _)))).mono ?_; rintro e w22 ⟨gS, rfl, hgX, hgY, hlS, hrX, hbX⟩; have hac2 : Below w21.heap.size w21 w22 := (hacc.alloc hacc.size _).trans (hbX.mono (hacc.alloc hacc.size _).size); have hUA : w21.heap.size ≤ w21.heap.size := Nat.le_refl _; have hPR0 := (GP.start w21.drew 33).later hbX; have hPR : GP w21 w22 := hPR0.undrawn; clear hPR0; clear hacc; have hacc := hac2; clear hac2 hbX hgX hgY hrX) | (go_at_call 13; refine (toStringS_any _ a0 c0 xs0 HNX.out (HLW.out _ (HCU_w24.out _ hacc))).mono ?_; rintro e w22 ⟨gS, rfl, hgX, hgY, hlS, hrX, hbX⟩; have hac2 : Below w21.heap.size w21 w22 := hacc.trans (hbX.mono hacc.size); clear hacc; have hacc := hac2; clear hac2 hbX hgX hgY hrX) | (go_at_call 14; have _p := hPR; refine (toGraph_lo _ b1 vc1 rs1 ga1 gc1 ns1 HNR.out HNN.out HNZ.out (HNW.out _ (HCU_w24.out _ hacc)).1 (HNW.out _ (HCU_w24.out _ hacc)).2).mono ?_; rintro e w23 ⟨gO, hO, rfl, hgX, hlO, hcO, hbX⟩; have hac2 : Below w21.heap.size w21 w23 := hacc.trans (hbX.mono hacc.size); have hPR2 := hPR.later hbX; clear _p hPR; have hPR := hPR2; clear hPR2; have hlS2 := hlS.below hbX; clear hlS; have hlS := hlS2; clear hlS2; clear hacc; have hacc := hac2; clear hac2 hbX hgX) | (go_at_call 14; refine (toGraph_lo _ b1 vc1 rs1 ga1 gc1 ns1 HNR.out HNN.out HNZ.out (HNW.out _ (HCU_w24.out _ (hacc.alloc hacc.size _))).1 (HNW.out _ (HCU_w24.out _ (hacc.alloc hacc.size _))).2).mono ?_; rintro e w23 ⟨gO, hO, rfl, hgX, hlO, hcO, hbX⟩; have hac2 : Below w21.heap.size w21 w23 := (hacc.alloc hacc.size _).trans (hbX.mono (hacc.alloc hacc.size _).size); have hUA := hacc.size; have hPR := (GP.start _ 33).later hbX; have hlS2 := (hlS.below ((Below.refl _ _).alloc (Nat.le_refl _) _)).below hbX; clear hlS; have hlS := hlS2; clear hlS2; clear hacc; have hacc := hac2; clear hac2 hbX hgX) | (go_at_call 14; refine (toGraph_lo _ b1 vc1 rs1 ga1 gc1 ns1 HNR.out HNN.out HNZ.out (HNW.out _ (HCU_w24.out _ hacc)).1 (HNW.out _ (HCU_w24.out _ hacc)).2).mono ?_; rintro e w23 ⟨gO, hO, rfl, hgX, hlO, hcO, hbX⟩; have hac2 : Below w21.heap.size w21 w23 := hacc.trans (hbX.mono hacc.size); have hlS2 := hlS.below hbX; clear hlS; have hlS := hlS2; clear hlS2; clear hacc; have hacc := hac2; clear hac2 hbX hgX) | (go_at_call 24; have _p := hPR; refine (HI.out _ _ _ _ _ _ _ hlS hlO.nums hcO.nodes).mono ?_; rintro e w24 ⟨a_w24, g_w24, k_w24, b_w24, d_w24, L_w24, rfl, hPA, hbX⟩; have hac2 : Below w21.heap.size w21 w24 := hacc.trans (hbX.mono hacc.size); have hgT := hPR.lt; have hPR2 := hPR.later hbX; clear _p hPR; have hPR := hPR2; clear hPR2; clear hacc; have hacc := hac2; clear hac2 hbX  hlS hlO hcO; have v0 := hPR.cell 0 (by omega); have v1 := hPR.cell 1 (by omega); have z0 := hPR.free 0; have z1 := hPR.free 1) | (go_at_call 24; refine (HI.out _ _ _ _ _ _ _ (hlS.below ((Below.refl _ _).alloc (Nat.le_refl _) _)) (hlO.below ((Below.refl _ _).alloc (Nat.le_refl _) _)).nums (hcO.below ((Below.refl _ _).alloc (Nat.le_refl _) _)).nodes).mono ?_; rintro e w24 ⟨a_w24, g_w24, k_w24, b_w24, d_w24, L_w24, rfl, hPA, hbX⟩; have hac2 : Below w21.heap.size w21 w24 := (hacc.alloc hacc.size _).trans (hbX.mono (hacc.alloc hacc.size _).size); have hgT := (GP.start w23 33).lt; have hUA := hacc.size; have hPR := (GP.start _ 33).later hbX; clear hacc; have hacc := hac2; clear hac2 hbX  hlS hlO hcO; have v0 := hPR.cell 0 (by omega); have v1 := hPR.cell 1 (by omega); have z0 := hPR.free 0; have z1 := hPR.free 1) | (go_at_call 24; refine (HI.out _ _ _ _ _ _ _ hlS hlO.nums hcO.nodes).mono ?_; rintro e w24 ⟨a_w24, g_w24, k_w24, b_w24, d_w24, L_w24, rfl, hPA, hbX⟩; have hac2 : Below w21.heap.size w21 w24 := hacc.trans (hbX.mono hacc.size); have hgU := hacc.size; clear hacc; have hacc := hac2; clear hac2 hbX  hlS hlO hcO))
        all_goals
          go_wp2_with fail
          go_meet
          first
            | exact ⟨_, a_w24, g_w24, k_w24, b_w24, d_w24, L_w24, rfl, pv_put hPR hPA hUA hgT, (hacc.setCell (p := ⟨_, 0, none⟩) hUA _).setCell (p := ⟨_, 1, none⟩) hUA _⟩
            | exact ⟨_, a_w24, g_w24, k_w24, b_w24, d_w24, L_w24, rfl, pv_start w24 _ hPA hgU hacc.size, hacc.alloc hacc.size _⟩
      case rest =>
        obtain ⟨BHh, a_Hh, g_Hh, k_Hh, b_Hh, d_Hh, L_Hh, rfl, hV, hU⟩ := hcut
        obtain ⟨X25, hXe⟩ : ∃ X, X = wc := ⟨_, rfl⟩
        rw [← hXe] at hV hU ⊢
        have Hhbx : Hid (PV w21.heap.size X25.heap.size BHh a_Hh g_Hh k_Hh b_Hh d_Hh pr pn L_Hh X25) := hV
        have SZ_X25 : Hid (w21.heap.size ≤ X25.heap.size) := hU.size
        have Sv15 : Hid (PV w2.heap.size X6.heap.size BS a_S g_S k_S b_S d_S pr pn L_S X25) := Sv14.out.below hU
        have Gv10 : Hid (PM BG a_G g_G k_G b_G d_G pr.length pn.length L_G X25) := Gv9.out.below hU
        have HB_X25 : Hid (Below W.heap.size W X25) := HB_w21.out.trans (hU.mono HB_w21.out.size)
        have Hhv0 : Hid (PV w21.heap.size X25.heap.size BHh a_Hh g_Hh k_Hh b_Hh d_Hh pr pn L_Hh X25) := Hhbx.out
        clear hV hU hXe m0 m1 hacc Hhbx HCU_w24 Sv14 Gv9 HB_w21
        have p0 := Hhv0.out.c0
        have p1 := Hhv0.out.c1
        have q0 := Sv15.out.c0
        have q1 := Sv15.out.c1
        go_wp2_with fail
        refine (pv_same X25 Hhv0.out Sv15.out HPR.out HPN.out HPZ.out).mono ?_
        rintro e w26 ⟨rfl, hb⟩
        have SZ_w26 : Hid (X25.heap.size ≤ w26.heap.size) := hb.size
        have Sv16 : Hid (PV w2.heap.size X6.heap.size BS a_S g_S k_S b_S d_S pr pn L_S w26) := Sv15.out.below hb
        have Gv11 : Hid (PM BG a_G g_G k_G b_G d_G pr.length pn.length L_G w26) := Gv10.out.below hb
        have Hhv1 : Hid (PV w21.heap.size X25.heap.size BHh a_Hh g_Hh k_Hh b_Hh d_Hh pr pn L_Hh w26) := Hhv0.out.below hb
        have HB_w26 : Hid (Below W.heap.size W w26) := HB_X25.out.trans (hb.mono HB_X25.out.size)
        clear hb p0 p1 q0 q1 Sv15 Gv10 Hhv0 HB_X25
        clear Hhv1
        have q0 := Gv11.out.c0
        have q1 := Gv11.out.c1
        go_wp2_with fail
        refine (pm_held w26 Gv11.out HLN.out HPR.out HPN.out HLZ.out).mono ?_
        rintro e w27 ⟨rfl, hb⟩
        rw [← HKM.out]
        have SZ_w27 : Hid (w26.heap.size ≤ w27.heap.size) := hb.size
        have Sv17 : Hid (PV w2.heap.size X6.heap.size BS a_S g_S k_S b_S d_S pr pn L_S w27) := Sv16.out.below hb
        have Gv12 : Hid (PM BG a_G g_G k_G b_G d_G pr.length pn.length L_G w27) := Gv11.out.below hb
        have HB_w27 : Hid (Below W.heap.size W w27) := HB_w26.out.trans (hb.mono HB_w26.out.size)
        clear hb q0 q1 Sv16 Gv11 HB_w26
        go_wp2
        go_ret
        exact ⟨rfl, HEnd.out _ HB_w27.out⟩

set_option maxRecDepth 100000 in
theorem lifted (os : Os) (started : os.Started) (H : Type) (enc : TypeId × Value → H) :
    ReturnsInHanded {} Try.checked os 4 .any (Rows.fnExactPlainSpec.pre6 enc Try.prog Try.f4 Rows.fnExactPlainRow.domain false) (Rows.fnExactPlainSpec.post enc Try.prog Try.f4 false true false false) := by
  refine returnsInHanded_of_change (C := Try.checked) own started (by kernel_rfl) Try.func4
    (ChangeSpec.witness6 (enc := enc) (C := Try.checked) false ⟨#[], #[.slice none 0 0, .agg #[.slice none 0 0, .slice none 0 0]], []⟩ 8 (by kernel_rfl) (by kernel_rfl) (by kernel_rfl) (by kernel_rfl)) ?_
  intro W base args ds gs before hval0 hW hcnd _
  have hval : ∀ (j : Nat) t v, Try.f4.params[j]? = some t → args[j]? = some v → Value.okWide Try.prog W .any base t v := hval0
  have hW' := hW
  obtain ⟨p, q, hA0, hV, rfl, hfz, hnd⟩ := hW
  have hA : DataW.TrodAll enc Try.prog W 0 (fun _ => true) true Try.f4.params.toList args.toList ds p := hA0
  rw [Try.params4] at hA hval
  obtain ⟨v0, vs_0, d0, ds0, p0, q0, hargs, rfl, rfl, h0, r0⟩ := trodAll_cons hA
  obtain ⟨v1, vs_1, d1, ds1, p1, q1, rfl, rfl, rfl, h1, r1⟩ := trodAll_cons r0
  obtain ⟨rfl, rfl, rfl⟩ := trodAll_nil r1
  obtain rfl : args = #[v0, v1] := by cases args; simp_all
  obtain ⟨rfl, rfl⟩ := trodVars_none hV
  have k_0 := h0
  have lt_0 : ∀ x ∈ p0, x.block < W.heap.size := by obtain ⟨m, hm⟩ := k_0; exact DataW.trod_lt m _ _ _ hm
  obtain ⟨a0, c0, xs0, rfl, hl0, hm0, hz0⟩ := strs_of (hval 0 22 v0 rfl rfl) h0
  have k_1 := h1
  have lt_1 : ∀ x ∈ p1, x.block < W.heap.size := by obtain ⟨m, hm⟩ := k_1; exact DataW.trod_lt m _ _ _ hm
  obtain ⟨b1, vc1, rs1, ga1, gc1, ns1, rfl, hk1, hn1, hw1, hg1, hm1, ho1⟩ := graph_of (hval 1 26 v1 rfl rfl) h1
  clear hA0 hval0
  refine (walk a0 c0 xs0 b1 vc1 rs1 ga1 gc1 ns1 W hl0 hm0 hz0 hk1 hn1 hw1 hg1 hm1 ho1).mono fun e W' ⟨he, bel⟩ => ?_
  subst he
  exact ⟨_, rfl, _, _, _, [], _, [], hW', trodAll_mk1 (shut_bool Try.underlying4 _), (trodAll_cons_mk (Below.trod laidOut (by kernel_rfl) (of_decide_eq_true (by kernel_rfl)) k_0 bel lt_0) (trodAll_cons_mk (Below.trod laidOut (by kernel_rfl) (of_decide_eq_true (by kernel_rfl)) k_1 bel lt_1) trodAll_mk0)), rfl, bel.frame _, fun h => by cases h⟩

theorem over : Rows.fnExactPlainRow.holds Try.pinned (OpenSpec.ofChange Rows.fnExactPlainSpec) :=
  OpenClaim.holds_of_wide 4 Try.f4 rfl rfl rfl rfl rfl rfl rfl ⟨rfl, rfl, rfl, rfl, rfl⟩ rfl rfl rfl rfl rfl (by kernel_rfl) Try.func4 (by kernel_rfl)
    (of_decide_eq_true (by kernel_rfl)) (by unfold Func.isWrapper; first | (rw [if_pos (by decide +kernel)]; kernel_rfl) | (rw [if_neg (by decide +kernel)]; exact ⟨rfl, rfl⟩))
    (fun os started H enc _ => lifted os started H enc)

theorem proved : Rows.FnExactPlainSaid := over
#print axioms proved
end Go.Proofs.Ythjfgibflbbgmaa.fnExactPlain
