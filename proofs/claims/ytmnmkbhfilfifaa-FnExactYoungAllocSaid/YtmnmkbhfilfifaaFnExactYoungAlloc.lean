/-
  FnExactYoungAlloc: for every slice of texts, every nursery and every number the law that holds the program's YoungAlloc against the specification's YoungAlloc returns true, and the arguments read as before; no condition.
-/
import Derived.Test.YtmnmkbhfilfifaaYAl4
import Derived.Test.YtmnmkbhfilfifaaNurOpen
import Derived.Deep.RegionHeld3
import Derived.Deep.Cut
import Derived.Deep.CutRange
import Derived.Deep.DeepCutAuto
import Derived.ProofKit
import Derived.OpenShut
import Derived.ShutString
import Derived.ChangeOld
import Derived.Below
import Derived.Lib.SmallJoins
namespace Go.Proofs.Ytmnmkbhfilfifaa.fnExactYoungAlloc
open Go.ChangeShapes Go.WideShapes Go.ChangeAt Go.RowKit
open kinds ints obj txt nu

theorem own : ownKnob Try.prog.godebug = none := by kernel_rfl
theorem laidOut : laidOutB Try.prog = true := by kernel_rfl


set_option linter.unusedVariables false in
set_option maxHeartbeats 4000000 in
set_option maxRecDepth 20000 in
theorem walk (a0 : Option Addr) (c0 : Nat) (xs0 : List ByteArray) (t1 : Int) (b1 : Option Addr) (vc1 : Nat) (vs1 : List Int) (x2 : Int) (w : World) (hl0 : Strs w a0 xs0) (hm0 : xs0.length ≤ maxLen) (hz0 : ∀ i (hi : i < xs0.length), xs0[i].size ≤ maxLen) (ht1 : (Lit.int .i64 t1).wf = true) (hk1 : Nums w b1 vs1) (hn1 : vs1.length ≤ maxLen) (hw1 : ∀ x ∈ vs1, (Lit.int .i64 x).wf = true) (hx2 : (Lit.int .i64 x2).wf = true) :
    Calls Try.prog 6 #[.slice a0 xs0.length c0, .agg #[.int .i64 t1, .slice b1 vs1.length vc1], .int .i64 x2] w fun e w' => e = .returned (.bool true) ∧ Below w.heap.size w w' := by
  obtain ⟨W, hW⟩ : ∃ W, W = w.alloc (.cells #[.int .i64 t1, .slice b1 vs1.length vc1] 25) := ⟨_, rfl⟩
  have HB0 : Hid (Below w.heap.size w W) := by
    have h1 : Below w.heap.size w W := by rw [hW]; exact (Below.refl _ _).alloc (Nat.le_refl _) _
    exact h1
  have hsz : w.heap.size < W.heap.size := by rw [hW]; simp
  have HK : Hid (∀ w', Below W.heap.size W w' → w'.cell? ⟨w.heap.size, 0, none⟩ = some (.int .i64 t1) ∧ w'.cell? ⟨w.heap.size, 1, none⟩ = some (.slice b1 vs1.length vc1)) := fun w' h =>
    ⟨by rw [h.cell (p := ⟨w.heap.size, 0, none⟩) hsz, hW, World.cell?_alloc_new]; rfl, by rw [h.cell (p := ⟨w.heap.size, 1, none⟩) hsz, hW, World.cell?_alloc_new]; rfl⟩
  have HW : Hid (W = w.alloc (.cells #[.int .i64 t1, .slice b1 vs1.length vc1] 25)) := hW
  have HLW : Hid (∀ w', Below W.heap.size W w' → Strs w' a0 xs0) := fun w' h => (hl0.below HB0.out).below h
  have HNW : Hid (∀ w', Below W.heap.size W w' → Nums w' b1 vs1) := fun w' h => (hk1.below HB0.out).below h
  have HEnd : Hid (∀ w', Below W.heap.size W w' → Below w.heap.size w w') := fun w' h => HB0.out.trans (h.mono HB0.out.size)
  have HSZ : Hid (∀ w, Strs w a0 xs0 → Calls _ _ _ w _) := fun w h => szStringS_any w a0 c0 xs0 1048576 (by omega) (by omega) hm0 h hz0
  have HSO : Hid (∀ (left : Int) w, 0 ≤ left → left ≤ 1048576 → Calls _ _ _ w _) := fun left w q1 q2 => szNur_any w t1 b1 vc1 vs1 left q1 q2 hn1
  have HX2 : Hid (x2 < 9223372036854775808) := i64_top hx2
  clear hx2
  have HWF : Hid (∀ x ∈ vs1, x < 9223372036854775808) := fun x hx => i64_top (hw1 x hx)
  clear hW hl0 hk1 hz0 hw1 ht1 hm0 hn1
  go_enter Try.func6, Try.ntmps6
  go_wp2_with fail
  rw [← HW.out]
  refine (HSZ.out W (HLW.out W (Below.refl _ _))).mono ?_
  rintro e w1 ⟨r, rfl, hr0, hr1, hr2, hw⟩
  have HB_w1 : Hid (Below W.heap.size W w1) := by first | exact hw | (subst hw; exact Below.refl _ _)
  have HR1 : Hid (0 ≤ r → xs0.length ≤ 1048576 ∧ ∀ i (hi : i < xs0.length), xs0[i].size ≤ 1048576) := hr2
  clear hr2 hw
  by_cases hneg : r < 0
  · go_wp2
    go_ret
    exact ⟨rfl, HEnd.out _ HB_w1.out⟩
  obtain ⟨hn, hz⟩ := HR1.out (by omega)
  have HZ : Hid (∀ i (hi : i < xs0.length), xs0[i].size ≤ 1048576) := hz
  have HNX : Hid (xs0.length ≤ 1048576) := hn
  clear hz HR1
  obtain ⟨m0, m1⟩ := HK.out w1 HB_w1.out
  go_wp2_with fail
  refine (HSO.out r w1 (by omega) hr1).mono ?_
  rintro e w2 ⟨r2, rfl, hs0, hs1, hs2, hb2⟩
  have HB_w2 : Hid (Below W.heap.size W w2) := HB_w1.out.trans (hb2.mono HB_w1.out.size)
  have HR2 : Hid (0 ≤ r2 → vs1.length ≤ 1048576) := hs2
  clear hs2 hb2 m0 m1
  by_cases hneg2 : r2 < 0
  · go_wp2
    go_ret
    exact ⟨rfl, HEnd.out _ HB_w2.out⟩
  have hnv := HR2.out (by omega)
  have HNV : Hid (vs1.length ≤ 1048576) := hnv
  have HS : Hid (∀ (w : World) (a0' : Option Addr) (k0' : Nat) (a1' : Option Addr), Strs w a0' xs0 → Nums w a1' vs1 → _) := fun w a0' k0' a1' q0 q1 => spec_yalloc w a0' k0' xs0 t1 a1' vs1.length vs1.length vs1 x2 rfl HNX.out q0 HZ.out HNV.out q1 HWF.out
  have HI : Hid (∀ (w : World) (a0' : Option Addr) (k0' : Nat) (a1' : Option Addr), Strs w a0' xs0 → Nums w a1' vs1 → _) := fun w a0' k0' a1' q0 q1 => impl_yalloc w a0' k0' xs0 t1 a1' vs1.length vs1.length vs1 x2 rfl HNX.out q0 HZ.out HNV.out (Nat.le_refl _) q1 HWF.out
  have hbnd : (alW xs0 t1 vs1 x2).length ≤ 1048576 := al_len xs0 t1 vs1 x2
  unfold AlAns AOut at HS HI
  dsimp only at HS HI
  have hxl : (alW xs0 t1 vs1 x2).length ≤ 1048576 := hbnd
  generalize alW xs0 t1 vs1 x2 = xs at HS HI hxl
  have HXL : Hid (xs.length ≤ 1048576) := hxl
  generalize alZ xs0 t1 vs1 x2 = t at HS HI
  generalize alR xs0 t1 vs1 x2 = r0 at HS HI
  have hqn0 : (r0 != r0) = false := by simp
  generalize alC xs0 t1 vs1 x2 = r1 at HS HI
  have hqn1 : (r1 != r1) = false := by simp
  obtain ⟨km, hkm⟩ : ∃ km : Int, km = ((1 + xs.length : Nat) : Int) := ⟨_, rfl⟩
  have HKM : Hid (km = ((1 + xs.length : Nat) : Int)) := hkm
  have hq0 : (km != km) = false := by simp
  have hq1 : ¬ km < 0 := by omega
  clear hxl hbnd hkm
  clear hr0 hr1 hs0 hs1 hneg HR2 hn hnv
  have hacc : Below w2.heap.size w2 w2.drew := (Below.refl _ _).drew
  have HCU_w5 : Hid (∀ w', Below w2.heap.size w2 w' → Below W.heap.size W w') := fun w' h => HB_w2.out.trans (h.mono HB_w2.out.size)
  obtain ⟨m0, m1⟩ := HK.out w2 HB_w2.out
  go_upto_region 8 with fail
  go_cut [8, 9, 10] (fun v e0 e1 wx => ∃ (B : Nat) (aR : Option Addr) (gR kR : Nat), v = .pointer (some ⟨B, 0, none⟩) ∧ e0 = .int .i64 r0 ∧ e1 = .int .i64 r1 ∧ OVar B t aR gR xs.length kR xs wx ∧ w2.heap.size ≤ B ∧ w2.heap.size ≤ gR ∧ Below w2.heap.size w2 wx)
  case first =>
    go_region_held3 (fun w' => w'.cell? ⟨w.heap.size, 0, none⟩ = some (.int .i64 t1) ∧ w'.cell? ⟨w.heap.size, 1, none⟩ = some (.slice b1 vs1.length vc1)) (first | with_reducible exact HK.out _ (HCU_w5.out _ hacc) | with_reducible exact HK.out _ (HCU_w5.out _ (hacc.alloc hacc.size _)) | exact HK.out _ (HCU_w5.out _ (hacc.alloc hacc.size _)) | exact HK.out _ (HCU_w5.out _ ((hacc.setCell (p := ⟨_, 0, none⟩) hUA _).setCell (p := ⟨_, 1, none⟩) hUA _)))
      (first | (go_at_call 14; have _p := hPR; refine (toStringS_any _ a0 c0 xs0 HNX.out (HLW.out _ (HCU_w5.out _ hacc))).mono ?_; rintro e w3 ⟨gS, rfl, hgX, hgY, hlS, hrX, hbX⟩; have hac2 : Below w2.heap.size w2 w3 := hacc.trans (hbX.mono hacc.size); have hPR2 := hPR.later hbX; clear _p hPR; have hPR := hPR2; clear hPR2; clear hacc; have hacc := hac2; clear hac2 hbX hgX hgY hrX) | (go_at_call 14; refine (toStringS_any _ a0 c0 xs0 HNX.out (HLW.out _ (HCU_w5.out _ (hacc.alloc hacc.size _)))).mono ?_; rintro e w3 ⟨gS, rfl, hgX, hgY, hlS, hrX, hbX⟩; have hac2 : Below w2.heap.size w2 w3 := (hacc.alloc hacc.size _).trans (hbX.mono (hacc.alloc hacc.size _).size); have hUA : w2.heap.size ≤ w2.heap.size := Nat.le_refl _; have hPR0 := (Pair.start w2.drew 30).later hbX; have hPR : Pair w2 w3 := ⟨⟨hPR0.below.os, hPR0.below.tape, hPR0.below.output, hPR0.below.size, hPR0.below.block⟩, hPR0.lt, hPR0.cell, hPR0.free⟩; clear hPR0; clear hacc; have hacc := hac2; clear hac2 hbX hgX hgY hrX) | (go_at_call 14; refine (toStringS_any _ a0 c0 xs0 HNX.out (HLW.out _ (HCU_w5.out _ hacc))).mono ?_; rintro e w3 ⟨gS, rfl, hgX, hgY, hlS, hrX, hbX⟩; have hac2 : Below w2.heap.size w2 w3 := hacc.trans (hbX.mono hacc.size); clear hacc; have hacc := hac2; clear hac2 hbX hgX hgY hrX) | (go_at_call 15; have _p := hPR; refine (toNur_any _ t1 b1 vc1 vs1 HNV.out (HNW.out _ (HCU_w5.out _ hacc))).mono ?_; rintro e w4 ⟨gO, rfl, hgX, hgY, hlO, hbX⟩; have hac2 : Below w2.heap.size w2 w4 := hacc.trans (hbX.mono hacc.size); have hPR2 := hPR.later hbX; clear _p hPR; have hPR := hPR2; clear hPR2; have hlS2 := hlS.below hbX; clear hlS; have hlS := hlS2; clear hlS2; clear hacc; have hacc := hac2; clear hac2 hbX hgX hgY) | (go_at_call 15; refine (toNur_any _ t1 b1 vc1 vs1 HNV.out (HNW.out _ (HCU_w5.out _ (hacc.alloc hacc.size _)))).mono ?_; rintro e w4 ⟨gO, rfl, hgX, hgY, hlO, hbX⟩; have hac2 : Below w2.heap.size w2 w4 := (hacc.alloc hacc.size _).trans (hbX.mono (hacc.alloc hacc.size _).size); have hUA := hacc.size; have hPR := (Pair.start _ 30).later hbX; have hlS2 := (hlS.below ((Below.refl _ _).alloc (Nat.le_refl _) _)).below hbX; clear hlS; have hlS := hlS2; clear hlS2; clear hacc; have hacc := hac2; clear hac2 hbX hgX hgY) | (go_at_call 15; refine (toNur_any _ t1 b1 vc1 vs1 HNV.out (HNW.out _ (HCU_w5.out _ hacc))).mono ?_; rintro e w4 ⟨gO, rfl, hgX, hgY, hlO, hbX⟩; have hac2 : Below w2.heap.size w2 w4 := hacc.trans (hbX.mono hacc.size); have hlS2 := hlS.below hbX; clear hlS; have hlS := hlS2; clear hlS2; clear hacc; have hacc := hac2; clear hac2 hbX hgX hgY) | (go_at_call 28; have _p := hPR; refine (HS.out _ _ _ _ hlS hlO.nums).mono ?_; rintro e w5 ⟨a_w5, g_w5, k_w5, rfl, hgX, hinR, hbX⟩; have hac2 : Below w2.heap.size w2 w5 := hacc.trans (hbX.mono hacc.size); have hgU : w2.heap.size ≤ g_w5 := Nat.le_trans hacc.size hgX; have hgT := Nat.lt_of_lt_of_le hPR.lt hgX; have hPR2 := hPR.later hbX; clear _p hPR; have hPR := hPR2; clear hPR2; clear hacc; have hacc := hac2; clear hac2 hbX  hgX hlS hlO; have v0 := hPR.cell 0 _ rfl; have v1 := hPR.cell 1 _ rfl; have z0 := hPR.free 0; have z1 := hPR.free 1) | (go_at_call 28; refine (HS.out _ _ _ _ (hlS.below ((Below.refl _ _).alloc (Nat.le_refl _) _)) (hlO.below ((Below.refl _ _).alloc (Nat.le_refl _) _)).nums).mono ?_; rintro e w5 ⟨a_w5, g_w5, k_w5, rfl, hgX, hinR, hbX⟩; have hac2 : Below w2.heap.size w2 w5 := (hacc.alloc hacc.size _).trans (hbX.mono (hacc.alloc hacc.size _).size); have hgU : w2.heap.size ≤ g_w5 := Nat.le_trans (hacc.alloc hacc.size _).size hgX; have hgT := Nat.lt_of_lt_of_le (Pair.start _ 30).lt hgX; have hUA := hacc.size; have hPR := (Pair.start _ 30).later hbX; clear hacc; have hacc := hac2; clear hac2 hbX  hgX hlS hlO; have v0 := hPR.cell 0 _ rfl; have v1 := hPR.cell 1 _ rfl; have z0 := hPR.free 0; have z1 := hPR.free 1) | (go_at_call 28; refine (HS.out _ _ _ _ hlS hlO.nums).mono ?_; rintro e w5 ⟨a_w5, g_w5, k_w5, rfl, hgX, hinR, hbX⟩; have hac2 : Below w2.heap.size w2 w5 := hacc.trans (hbX.mono hacc.size); have hgU : w2.heap.size ≤ g_w5 := Nat.le_trans hacc.size hgX; clear hacc; have hacc := hac2; clear hac2 hbX  hgX hlS hlO))
    all_goals
      go_wp2_with fail
      go_meet
      first
        | exact ⟨_, a_w5, g_w5, k_w5, rfl, rfl, rfl, ovar_put hPR hinR hgT rfl, hUA, hgU, (hacc.setCell (p := ⟨_, 0, none⟩) hUA _).setCell (p := ⟨_, 1, none⟩) hUA _⟩
        | exact ⟨_, a_w5, g_w5, k_w5, rfl, rfl, rfl, OVar.start w5 t a_w5 g_w5 xs.length k_w5 xs _ rfl hinR, hacc.size, hgU, hacc.alloc hacc.size _⟩
  case rest =>
    obtain ⟨BS, a_S, g_S, k_S, rfl, rfl, rfl, hV, hBU, hgU, hU⟩ := hcut
    obtain ⟨X6, hXe⟩ : ∃ X, X = wc := ⟨_, rfl⟩
    rw [← hXe] at hV hU ⊢
    have Sbx : Hid (OVar BS t a_S g_S xs.length k_S xs X6) := hV
    have LO_S : Hid (w2.heap.size ≤ g_S) := hgU
    have LB_S : Hid (w2.heap.size ≤ BS) := hBU
    have HI_S : Hid (0 < xs.length → g_S < X6.heap.size) := fun h => hV.tx.lt h
    have BL_S : Hid (BS < X6.heap.size) := hV.lt
    have LW_S : Hid (W.heap.size ≤ g_S) := by have h1 := HB_w2.out.size; show W.heap.size ≤ g_S; omega
    have SZ_X6 : Hid (w2.heap.size ≤ X6.heap.size) := hU.size
    have HB_X6 : Hid (Below W.heap.size W X6) := HB_w2.out.trans (hU.mono HB_w2.out.size)
    have Sv0 : Hid (OVar BS t a_S g_S xs.length k_S xs X6) := Sbx.out
    clear hV hBU hgU hU hXe m0 m1 hacc Sbx HCU_w5 HB_w2
    go_wp2_with fail
    refine (toStringS_any X6 a0 c0 xs0 HNX.out (HLW.out _ HB_X6.out)).mono ?_
    rintro e w7 ⟨g_w7, rfl, hlo, hhi, hst, hrw, hb⟩
    have LO_X0 : Hid (X6.heap.size ≤ g_w7) := hlo
    have HI_X0 : Hid (g_w7 < w7.heap.size) := hhi
    have LW_X0 : Hid (W.heap.size ≤ g_w7) := by have h1 := HB_X6.out.size; show W.heap.size ≤ g_w7; omega
    have SZ_w7 : Hid (X6.heap.size ≤ w7.heap.size) := hb.size
    have Sv1 : Hid (OVar BS t a_S g_S xs.length k_S xs w7) := Sv0.out.below hb
    have HB_w7 : Hid (Below W.heap.size W w7) := HB_X6.out.trans (hb.mono HB_X6.out.size)
    have X0v0 : Hid (Txts w7 (some ⟨g_w7, 0, none⟩) g_w7 xs0) := txts_of hst hrw
    clear hb hlo hhi hst hrw Sv0 HB_X6
    obtain ⟨m0, m1⟩ := HK.out w7 HB_w7.out
    go_wp2_with fail
    refine (toNur_any w7 t1 b1 vc1 vs1 HNV.out (HNW.out _ HB_w7.out)).mono ?_
    rintro e w8 ⟨g_w8, rfl, hlo, hhi, hin, hb⟩
    have LO_X1 : Hid (w7.heap.size ≤ g_w8) := hlo
    have HI_X1 : Hid (g_w8 < w8.heap.size) := hhi
    have LW_X1 : Hid (W.heap.size ≤ g_w8) := by have h1 := HB_w7.out.size; show W.heap.size ≤ g_w8; omega
    have SZ_w8 : Hid (w7.heap.size ≤ w8.heap.size) := hb.size
    have Sv2 : Hid (OVar BS t a_S g_S xs.length k_S xs w8) := Sv1.out.below hb
    have X0v1 : Hid (Txts w8 (some ⟨g_w7, 0, none⟩) g_w7 xs0) := X0v0.out.below hb
    have HB_w8 : Hid (Below W.heap.size W w8) := HB_w7.out.trans (hb.mono HB_w7.out.size)
    obtain ⟨Y9, hY9⟩ : ∃ Y, Y = w8.alloc (.cells #[.int .i64 t1, .slice (some ⟨g_w8, 0, none⟩) vs1.length vs1.length] 30) := ⟨_, rfl⟩
    have HY9 : Hid (Y9 = w8.alloc (.cells #[.int .i64 t1, .slice (some ⟨g_w8, 0, none⟩) vs1.length vs1.length] 30)) := hY9
    have hbY9 : Below w8.heap.size w8 Y9 := by rw [hY9]; exact (Below.refl _ _).alloc (Nat.le_refl _) _
    obtain ⟨BX1, hBX1⟩ : ∃ B, B = w8.heap.size := ⟨_, rfl⟩
    have HEX1 : Hid (BX1 = w8.heap.size) := hBX1
    have X1bx : Hid (OVar BX1 t1 (some ⟨g_w8, 0, none⟩) g_w8 vs1.length vs1.length vs1 Y9) := by rw [hY9, hBX1]; exact OVar.start w8 t1 _ g_w8 _ _ vs1 _ rfl hin
    have BL_X1 : Hid (BX1 < Y9.heap.size) := X1bx.out.lt
    have BW_X1 : Hid (W.heap.size ≤ BX1) := by have h1 := HB_w8.out.size; show W.heap.size ≤ BX1; omega
    have SZ_Y9 : Hid (w8.heap.size ≤ Y9.heap.size) := hbY9.size
    have Sv3 : Hid (OVar BS t a_S g_S xs.length k_S xs Y9) := Sv2.out.below hbY9
    have X0v2 : Hid (Txts Y9 (some ⟨g_w7, 0, none⟩) g_w7 xs0) := X0v1.out.below hbY9
    have HB_Y9 : Hid (Below W.heap.size W Y9) := HB_w8.out.trans (hbY9.mono HB_w8.out.size)
    have X1v0 : Hid (OVar BX1 t1 (some ⟨g_w8, 0, none⟩) g_w8 vs1.length vs1.length vs1 Y9) := X1bx.out
    clear hY9 hbY9 hBX1 X1bx hb hlo hhi hin m0 m1 Sv1 X0v0 HB_w7 Sv2 X0v1 HB_w8
    have q0 := X1v0.out.c0
    have q1 := X1v0.out.c1
    go_wp2_with (first | (rw [← HY9.out, ← HEX1.out]) | (rw [← HY9.out]))
    try rw [← HY9.out]
    try rw [← HEX1.out]
    refine (HI.out Y9 _ _ _ X0v2.out.strs X1v0.out.tx.nums).mono ?_
    rintro e w10 ⟨a_w10, g_w10, k_w10, rfl, hlo, hi, hb⟩
    have LO_G : Hid (Y9.heap.size ≤ g_w10) := hlo
    have HI_G : Hid (0 < xs.length → g_w10 < w10.heap.size) := fun h => hi.lt h
    have LW_G : Hid (W.heap.size ≤ g_w10) := by have h1 := HB_Y9.out.size; show W.heap.size ≤ g_w10; omega
    have SZ_w10 : Hid (Y9.heap.size ≤ w10.heap.size) := hb.size
    have Sv4 : Hid (OVar BS t a_S g_S xs.length k_S xs w10) := Sv3.out.below hb
    have X0v3 : Hid (Txts w10 (some ⟨g_w7, 0, none⟩) g_w7 xs0) := X0v2.out.below hb
    have X1v1 : Hid (OVar BX1 t1 (some ⟨g_w8, 0, none⟩) g_w8 vs1.length vs1.length vs1 w10) := X1v0.out.below hb
    have HB_w10 : Hid (Below W.heap.size W w10) := HB_Y9.out.trans (hb.mono HB_Y9.out.size)
    obtain ⟨Y11, hY11⟩ : ∃ Y, Y = w10.alloc (.cells #[.int .i64 t, .slice a_w10 xs.length k_w10] 30) := ⟨_, rfl⟩
    have HY11 : Hid (Y11 = w10.alloc (.cells #[.int .i64 t, .slice a_w10 xs.length k_w10] 30)) := hY11
    have hbY11 : Below w10.heap.size w10 Y11 := by rw [hY11]; exact (Below.refl _ _).alloc (Nat.le_refl _) _
    obtain ⟨BG, hBG⟩ : ∃ B, B = w10.heap.size := ⟨_, rfl⟩
    have HEG : Hid (BG = w10.heap.size) := hBG
    have Gbx : Hid (OVar BG t a_w10 g_w10 xs.length k_w10 xs Y11) := by rw [hY11, hBG]; exact OVar.start w10 t a_w10 g_w10 xs.length k_w10 xs _ rfl hi
    have BL_G : Hid (BG < Y11.heap.size) := Gbx.out.lt
    have SZ_Y11 : Hid (w10.heap.size ≤ Y11.heap.size) := hbY11.size
    have Sv5 : Hid (OVar BS t a_S g_S xs.length k_S xs Y11) := Sv4.out.below hbY11
    have X0v4 : Hid (Txts Y11 (some ⟨g_w7, 0, none⟩) g_w7 xs0) := X0v3.out.below hbY11
    have X1v2 : Hid (OVar BX1 t1 (some ⟨g_w8, 0, none⟩) g_w8 vs1.length vs1.length vs1 Y11) := X1v1.out.below hbY11
    have HB_Y11 : Hid (Below W.heap.size W Y11) := HB_w10.out.trans (hbY11.mono HB_w10.out.size)
    have Gv0 : Hid (OVar BG t a_w10 g_w10 xs.length k_w10 xs Y11) := Gbx.out
    clear hY11 hbY11 hBG Gbx hb hi hlo q0 q1 Sv3 X0v2 X1v0 HB_Y9 Sv4 X0v3 X1v1 HB_w10
    have p0 := Gv0.out.c0
    have p1 := Gv0.out.c1
    have q0 := Sv5.out.c0
    have q1 := Sv5.out.c1
    go_wp2_with (first | (rw [← HY11.out, ← HEG.out]) | (rw [← HY11.out]))
    try rw [← HY11.out]
    try rw [← HEG.out]
    refine (eqNur_same Y11 t a_w10 a_S g_w10 g_S xs.length k_w10 k_S xs rfl HXL.out Gv0.out.tx Sv5.out.tx).mono ?_
    rintro e w12 ⟨rfl, hb⟩
    have SZ_w12 : Hid (Y11.heap.size ≤ w12.heap.size) := hb.size
    have Sv6 : Hid (OVar BS t a_S g_S xs.length k_S xs w12) := Sv5.out.below hb
    have X0v5 : Hid (Txts w12 (some ⟨g_w7, 0, none⟩) g_w7 xs0) := X0v4.out.below hb
    have X1v3 : Hid (OVar BX1 t1 (some ⟨g_w8, 0, none⟩) g_w8 vs1.length vs1.length vs1 w12) := X1v2.out.below hb
    have Gv1 : Hid (OVar BG t a_w10 g_w10 xs.length k_w10 xs w12) := Gv0.out.below hb
    have HB_w12 : Hid (Below W.heap.size W w12) := HB_Y11.out.trans (hb.mono HB_Y11.out.size)
    clear hb p0 p1 q0 q1 Sv5 X0v4 X1v2 Gv0 HB_Y11
    go_wp2_with fail
    refine (toStringS_any w12 a0 c0 xs0 HNX.out (HLW.out _ HB_w12.out)).mono ?_
    rintro e w13 ⟨g_w13, rfl, hlo, hhi, hst, hrw, hb⟩
    have LO_T0 : Hid (w12.heap.size ≤ g_w13) := hlo
    have HI_T0 : Hid (g_w13 < w13.heap.size) := hhi
    have LW_T0 : Hid (W.heap.size ≤ g_w13) := by have h1 := HB_w12.out.size; show W.heap.size ≤ g_w13; omega
    have SZ_w13 : Hid (w12.heap.size ≤ w13.heap.size) := hb.size
    have Sv7 : Hid (OVar BS t a_S g_S xs.length k_S xs w13) := Sv6.out.below hb
    have X0v6 : Hid (Txts w13 (some ⟨g_w7, 0, none⟩) g_w7 xs0) := X0v5.out.below hb
    have X1v4 : Hid (OVar BX1 t1 (some ⟨g_w8, 0, none⟩) g_w8 vs1.length vs1.length vs1 w13) := X1v3.out.below hb
    have Gv2 : Hid (OVar BG t a_w10 g_w10 xs.length k_w10 xs w13) := Gv1.out.below hb
    have HB_w13 : Hid (Below W.heap.size W w13) := HB_w12.out.trans (hb.mono HB_w12.out.size)
    have T0v0 : Hid (Txts w13 (some ⟨g_w13, 0, none⟩) g_w13 xs0) := txts_of hst hrw
    clear hb hlo hhi hst hrw Sv6 X0v5 X1v3 Gv1 HB_w12
    go_wp2_with fail
    refine (eqStringS_same w13 _ _ _ _ xs0 HNX.out X0v6.out.strs T0v0.out.strs).mono ?_
    rintro e w14 ⟨rfl, hb⟩
    have SZ_w14 : Hid (w13.heap.size ≤ w14.heap.size) := hb.size
    have Sv8 : Hid (OVar BS t a_S g_S xs.length k_S xs w14) := Sv7.out.below hb
    have X0v7 : Hid (Txts w14 (some ⟨g_w7, 0, none⟩) g_w7 xs0) := X0v6.out.below hb
    have X1v5 : Hid (OVar BX1 t1 (some ⟨g_w8, 0, none⟩) g_w8 vs1.length vs1.length vs1 w14) := X1v4.out.below hb
    have Gv3 : Hid (OVar BG t a_w10 g_w10 xs.length k_w10 xs w14) := Gv2.out.below hb
    have T0v1 : Hid (Txts w14 (some ⟨g_w13, 0, none⟩) g_w13 xs0) := T0v0.out.below hb
    have HB_w14 : Hid (Below W.heap.size W w14) := HB_w13.out.trans (hb.mono HB_w13.out.size)
    clear hb Sv7 X0v6 X1v4 Gv2 T0v0 HB_w13
    clear T0v1
    have hacc : Below w14.heap.size w14 w14.drew := (Below.refl _ _).drew
    have HXK : Hid (OVar BX1 t1 (some ⟨g_w8, 0, none⟩) g_w8 vs1.length vs1.length vs1 w14) := X1v5.out
    have HCK : Hid (∀ w', Below w14.heap.size w14 w' → (w'.cell? ⟨w.heap.size, 0, none⟩ = some (.int .i64 t1) ∧ w'.cell? ⟨w.heap.size, 1, none⟩ = some (.slice b1 vs1.length vc1)) ∧ w'.cell? ⟨BX1, 0, none⟩ = some (.int .i64 t1) ∧ w'.cell? ⟨BX1, 1, none⟩ = some (.slice (some ⟨g_w8, 0, none⟩) vs1.length vs1.length)) := fun w' h => ⟨HK.out w' (HB_w14.out.trans (h.mono HB_w14.out.size)), (HXK.out.below h).c0, (HXK.out.below h).c1⟩
    have HNU2 : Hid (∀ w', Below w14.heap.size w14 w' → Nums w' b1 vs1) := fun w' h => HNW.out _ (HB_w14.out.trans (h.mono HB_w14.out.size))
    obtain ⟨⟨m0, m1⟩, q0, q1⟩ := HCK.out w14 (Below.refl _ _)
    go_wp2_with fail
    go_region_held3 (fun w' => (w'.cell? ⟨w.heap.size, 0, none⟩ = some (.int .i64 t1) ∧ w'.cell? ⟨w.heap.size, 1, none⟩ = some (.slice b1 vs1.length vc1)) ∧ w'.cell? ⟨BX1, 0, none⟩ = some (.int .i64 t1) ∧ w'.cell? ⟨BX1, 1, none⟩ = some (.slice (some ⟨g_w8, 0, none⟩) vs1.length vs1.length)) (first | with_reducible exact HCK.out _ hacc) (first | (go_at_call 15; refine (toNur_any _ t1 b1 vc1 vs1 HNV.out (HNU2.out _ hacc)).mono ?_; rintro e w15 ⟨gO, rfl, hgX, hgY, hlO, hbX⟩; have hac2 : Below w14.heap.size w14 w15 := hacc.trans (hbX.mono hacc.size); clear hacc hbX; have hacc := hac2; clear hac2; clear hgX hgY) | (go_at_call 18; refine (eqNur_same w15 t1 _ _ g_w8 gO vs1.length vs1.length vs1.length vs1 rfl HNV.out (HXK.out.below hacc).tx hlO).mono ?_; rintro e w16 ⟨rfl, hbX⟩; have hac2 : Below w14.heap.size w14 w16 := hacc.trans (hbX.mono hacc.size); clear hacc hbX; have hacc := hac2; clear hac2; clear hlO))
    all_goals
      have SZ_w16 : Hid (w14.heap.size ≤ w16.heap.size) := hacc.size
      have Sv9 : Hid (OVar BS t a_S g_S xs.length k_S xs w16) := Sv8.out.below hacc
      have X0v8 : Hid (Txts w16 (some ⟨g_w7, 0, none⟩) g_w7 xs0) := X0v7.out.below hacc
      have X1v6 : Hid (OVar BX1 t1 (some ⟨g_w8, 0, none⟩) g_w8 vs1.length vs1.length vs1 w16) := X1v5.out.below hacc
      have Gv4 : Hid (OVar BG t a_w10 g_w10 xs.length k_w10 xs w16) := Gv3.out.below hacc
      have HB_w16 : Hid (Below W.heap.size W w16) := HB_w14.out.trans (hacc.mono HB_w14.out.size)
      clear hacc m0 m1 q0 q1 HXK HCK HNU2 Sv8 X0v7 X1v5 Gv3 HB_w14
      go_wp2_with fail
      refine (markStringS_any w16 _ g_w7 xs0.length _ xs0 1 rfl X0v8.out HNX.out (by omega) (by omega)).mono ?_
      rintro e w17 ⟨rfl, hg, hm⟩
      have Sv10 : Hid (OVar BS t a_S g_S xs.length k_S xs w17) := Sv9.out.grown hg (by have o0 := SZ_X6.out; have o1 := LO_S.out; have o2 := LB_S.out; have o3 := BL_S.out; have o4 := SZ_w7.out; have o5 := LO_X0.out; have o6 := HI_X0.out; have o7 := SZ_w8.out; have o8 := LO_X1.out; have o9 := HI_X1.out; have o10 := SZ_Y9.out; have o11 := HEX1.out; have o12 := BL_X1.out; have o13 := SZ_w10.out; have o14 := LO_G.out; have o15 := SZ_Y11.out; have o16 := HEG.out; have o17 := BL_G.out; have o18 := SZ_w12.out; have o19 := SZ_w13.out; have o20 := LO_T0.out; have o21 := HI_T0.out; have o22 := SZ_w14.out; have o23 := SZ_w16.out; omega) (fun h => by have o0 := SZ_X6.out; have o1 := LO_S.out; have o2 := LB_S.out; have o3 := BL_S.out; have o4 := SZ_w7.out; have o5 := LO_X0.out; have o6 := HI_X0.out; have o7 := SZ_w8.out; have o8 := LO_X1.out; have o9 := HI_X1.out; have o10 := SZ_Y9.out; have o11 := HEX1.out; have o12 := BL_X1.out; have o13 := SZ_w10.out; have o14 := LO_G.out; have o15 := SZ_Y11.out; have o16 := HEG.out; have o17 := BL_G.out; have o18 := SZ_w12.out; have o19 := SZ_w13.out; have o20 := LO_T0.out; have o21 := HI_T0.out; have o22 := SZ_w14.out; have o23 := SZ_w16.out; have oc := HI_S.out h; omega)
      have X1v7 : Hid (OVar BX1 t1 (some ⟨g_w8, 0, none⟩) g_w8 vs1.length vs1.length vs1 w17) := X1v6.out.grown hg (by have o0 := SZ_X6.out; have o1 := LO_S.out; have o2 := LB_S.out; have o3 := BL_S.out; have o4 := SZ_w7.out; have o5 := LO_X0.out; have o6 := HI_X0.out; have o7 := SZ_w8.out; have o8 := LO_X1.out; have o9 := HI_X1.out; have o10 := SZ_Y9.out; have o11 := HEX1.out; have o12 := BL_X1.out; have o13 := SZ_w10.out; have o14 := LO_G.out; have o15 := SZ_Y11.out; have o16 := HEG.out; have o17 := BL_G.out; have o18 := SZ_w12.out; have o19 := SZ_w13.out; have o20 := LO_T0.out; have o21 := HI_T0.out; have o22 := SZ_w14.out; have o23 := SZ_w16.out; omega) (fun h => by have o0 := SZ_X6.out; have o1 := LO_S.out; have o2 := LB_S.out; have o3 := BL_S.out; have o4 := SZ_w7.out; have o5 := LO_X0.out; have o6 := HI_X0.out; have o7 := SZ_w8.out; have o8 := LO_X1.out; have o9 := HI_X1.out; have o10 := SZ_Y9.out; have o11 := HEX1.out; have o12 := BL_X1.out; have o13 := SZ_w10.out; have o14 := LO_G.out; have o15 := SZ_Y11.out; have o16 := HEG.out; have o17 := BL_G.out; have o18 := SZ_w12.out; have o19 := SZ_w13.out; have o20 := LO_T0.out; have o21 := HI_T0.out; have o22 := SZ_w14.out; have o23 := SZ_w16.out; omega)
      have Gv5 : Hid (OVar BG t a_w10 g_w10 xs.length k_w10 xs w17) := Gv4.out.grown hg (by have o0 := SZ_X6.out; have o1 := LO_S.out; have o2 := LB_S.out; have o3 := BL_S.out; have o4 := SZ_w7.out; have o5 := LO_X0.out; have o6 := HI_X0.out; have o7 := SZ_w8.out; have o8 := LO_X1.out; have o9 := HI_X1.out; have o10 := SZ_Y9.out; have o11 := HEX1.out; have o12 := BL_X1.out; have o13 := SZ_w10.out; have o14 := LO_G.out; have o15 := SZ_Y11.out; have o16 := HEG.out; have o17 := BL_G.out; have o18 := SZ_w12.out; have o19 := SZ_w13.out; have o20 := LO_T0.out; have o21 := HI_T0.out; have o22 := SZ_w14.out; have o23 := SZ_w16.out; omega) (fun h => by have o0 := SZ_X6.out; have o1 := LO_S.out; have o2 := LB_S.out; have o3 := BL_S.out; have o4 := SZ_w7.out; have o5 := LO_X0.out; have o6 := HI_X0.out; have o7 := SZ_w8.out; have o8 := LO_X1.out; have o9 := HI_X1.out; have o10 := SZ_Y9.out; have o11 := HEX1.out; have o12 := BL_X1.out; have o13 := SZ_w10.out; have o14 := LO_G.out; have o15 := SZ_Y11.out; have o16 := HEG.out; have o17 := BL_G.out; have o18 := SZ_w12.out; have o19 := SZ_w13.out; have o20 := LO_T0.out; have o21 := HI_T0.out; have o22 := SZ_w14.out; have o23 := SZ_w16.out; have oc := HI_G.out h; omega)
      have SZ_w17 : Hid (w16.heap.size ≤ w17.heap.size) := hg.size
      have HB_w17 : Hid (Below W.heap.size W w17) := HB_w16.out.trans (below_of_grown hg HB_w16.out.size LW_X0.out)
      clear hg hm Sv9 X0v8 X1v6 Gv4 HB_w16
      obtain ⟨kk0, hkk0⟩ : ∃ k : Nat, k = 1 + xs0.length := ⟨_, rfl⟩
      have hkb0 : kk0 ≤ 1048577 ∧ 0 < kk0 := by have := HNX.out; omega
      rw [← hkk0]
      clear hkk0
      obtain ⟨hkl0, hkp0⟩ := hkb0
      have q0 := X1v7.out.c0
      have q1 := X1v7.out.c1
      go_wp2_with fail
      refine (markNur_any w17 t1 _ g_w8 vs1.length vs1.length vs1 kk0 rfl X1v7.out.tx HNV.out (by omega)).mono ?_
      rintro e w18 ⟨rfl, hg, hm⟩
      have Sv11 : Hid (OVar BS t a_S g_S xs.length k_S xs w18) := Sv10.out.grown hg (by have o0 := SZ_X6.out; have o1 := LO_S.out; have o2 := LB_S.out; have o3 := BL_S.out; have o4 := SZ_w7.out; have o5 := LO_X0.out; have o6 := HI_X0.out; have o7 := SZ_w8.out; have o8 := LO_X1.out; have o9 := HI_X1.out; have o10 := SZ_Y9.out; have o11 := HEX1.out; have o12 := BL_X1.out; have o13 := SZ_w10.out; have o14 := LO_G.out; have o15 := SZ_Y11.out; have o16 := HEG.out; have o17 := BL_G.out; have o18 := SZ_w12.out; have o19 := SZ_w13.out; have o20 := LO_T0.out; have o21 := HI_T0.out; have o22 := SZ_w14.out; have o23 := SZ_w16.out; have o24 := SZ_w17.out; omega) (fun h => by have o0 := SZ_X6.out; have o1 := LO_S.out; have o2 := LB_S.out; have o3 := BL_S.out; have o4 := SZ_w7.out; have o5 := LO_X0.out; have o6 := HI_X0.out; have o7 := SZ_w8.out; have o8 := LO_X1.out; have o9 := HI_X1.out; have o10 := SZ_Y9.out; have o11 := HEX1.out; have o12 := BL_X1.out; have o13 := SZ_w10.out; have o14 := LO_G.out; have o15 := SZ_Y11.out; have o16 := HEG.out; have o17 := BL_G.out; have o18 := SZ_w12.out; have o19 := SZ_w13.out; have o20 := LO_T0.out; have o21 := HI_T0.out; have o22 := SZ_w14.out; have o23 := SZ_w16.out; have o24 := SZ_w17.out; have oc := HI_S.out h; omega)
      have Gv6 : Hid (OVar BG t a_w10 g_w10 xs.length k_w10 xs w18) := Gv5.out.grown hg (by have o0 := SZ_X6.out; have o1 := LO_S.out; have o2 := LB_S.out; have o3 := BL_S.out; have o4 := SZ_w7.out; have o5 := LO_X0.out; have o6 := HI_X0.out; have o7 := SZ_w8.out; have o8 := LO_X1.out; have o9 := HI_X1.out; have o10 := SZ_Y9.out; have o11 := HEX1.out; have o12 := BL_X1.out; have o13 := SZ_w10.out; have o14 := LO_G.out; have o15 := SZ_Y11.out; have o16 := HEG.out; have o17 := BL_G.out; have o18 := SZ_w12.out; have o19 := SZ_w13.out; have o20 := LO_T0.out; have o21 := HI_T0.out; have o22 := SZ_w14.out; have o23 := SZ_w16.out; have o24 := SZ_w17.out; omega) (fun h => by have o0 := SZ_X6.out; have o1 := LO_S.out; have o2 := LB_S.out; have o3 := BL_S.out; have o4 := SZ_w7.out; have o5 := LO_X0.out; have o6 := HI_X0.out; have o7 := SZ_w8.out; have o8 := LO_X1.out; have o9 := HI_X1.out; have o10 := SZ_Y9.out; have o11 := HEX1.out; have o12 := BL_X1.out; have o13 := SZ_w10.out; have o14 := LO_G.out; have o15 := SZ_Y11.out; have o16 := HEG.out; have o17 := BL_G.out; have o18 := SZ_w12.out; have o19 := SZ_w13.out; have o20 := LO_T0.out; have o21 := HI_T0.out; have o22 := SZ_w14.out; have o23 := SZ_w16.out; have o24 := SZ_w17.out; have oc := HI_G.out h; omega)
      have SZ_w18 : Hid (w17.heap.size ≤ w18.heap.size) := hg.size
      have HB_w18 : Hid (Below W.heap.size W w18) := HB_w17.out.trans (below_of_grown hg HB_w17.out.size LW_X1.out)
      clear hg hm q0 q1 Sv10 X1v7 Gv5 HB_w17
      obtain ⟨kk1, hkk1⟩ : ∃ k : Nat, k = kk0 + vs1.length := ⟨_, rfl⟩
      have hkb1 : kk1 ≤ 2097153 ∧ 0 < kk1 := by have := HNV.out; omega
      rw [← hkk1]
      clear hkk1
      obtain ⟨hkl1, hkp1⟩ := hkb1
      have hkn : ¬ (kk1 : Int) < 0 := by omega
      have p0 := Gv6.out.c0
      have p1 := Gv6.out.c1
      have q0 := Sv11.out.c0
      have q1 := Sv11.out.c1
      go_wp2_with fail
      refine (eqNur_same w18 t a_w10 a_S g_w10 g_S xs.length k_w10 k_S xs rfl HXL.out Gv6.out.tx Sv11.out.tx).mono ?_
      rintro e w19 ⟨rfl, hb⟩
      have SZ_w19 : Hid (w18.heap.size ≤ w19.heap.size) := hb.size
      have Sv12 : Hid (OVar BS t a_S g_S xs.length k_S xs w19) := Sv11.out.below hb
      have Gv7 : Hid (OVar BG t a_w10 g_w10 xs.length k_w10 xs w19) := Gv6.out.below hb
      have HB_w19 : Hid (Below W.heap.size W w19) := HB_w18.out.trans (hb.mono HB_w18.out.size)
      clear hb p0 p1 q0 q1 Sv11 Gv6 HB_w18
      clear hkn
      have q0 := Gv7.out.c0
      have q1 := Gv7.out.c1
      go_wp2_with fail
      obtain ⟨rr, htr, hBr, hne⟩ := Gv7.out.block W.heap.size LW_G.out HB_w19.out.size
      have hrG : BG ≠ rr := hne BG Gv7.out.lt (fun h => by have o0 := SZ_X6.out; have o1 := LO_S.out; have o2 := LB_S.out; have o3 := BL_S.out; have o4 := SZ_w7.out; have o5 := LO_X0.out; have o6 := HI_X0.out; have o7 := SZ_w8.out; have o8 := LO_X1.out; have o9 := HI_X1.out; have o10 := SZ_Y9.out; have o11 := HEX1.out; have o12 := BL_X1.out; have o13 := SZ_w10.out; have o14 := LO_G.out; have o15 := SZ_Y11.out; have o16 := HEG.out; have o17 := BL_G.out; have o18 := SZ_w12.out; have o19 := SZ_w13.out; have o20 := LO_T0.out; have o21 := HI_T0.out; have o22 := SZ_w14.out; have o23 := SZ_w16.out; have o24 := SZ_w17.out; have o25 := SZ_w18.out; have o26 := SZ_w19.out; have oc := HI_G.out h; omega)
      refine (markNur_any w19 t a_w10 rr xs.length k_w10 xs 1 rfl htr HXL.out (by omega)).mono ?_
      rintro e w20 ⟨rfl, hg, hm⟩
      have GM : Hid (OVar BG t a_w10 rr xs.length k_w10 (marks 1 xs.length) w20) := Gv7.out.marked hg hrG (marks_len 1 xs.length) hm
      have Sv13 : Hid (OVar BS t a_S g_S xs.length k_S xs w20) := Sv12.out.grown hg (hne BS Sv12.out.lt (fun _ => by have o0 := SZ_X6.out; have o1 := LO_S.out; have o2 := LB_S.out; have o3 := BL_S.out; have o4 := SZ_w7.out; have o5 := LO_X0.out; have o6 := HI_X0.out; have o7 := SZ_w8.out; have o8 := LO_X1.out; have o9 := HI_X1.out; have o10 := SZ_Y9.out; have o11 := HEX1.out; have o12 := BL_X1.out; have o13 := SZ_w10.out; have o14 := LO_G.out; have o15 := SZ_Y11.out; have o16 := HEG.out; have o17 := BL_G.out; have o18 := SZ_w12.out; have o19 := SZ_w13.out; have o20 := LO_T0.out; have o21 := HI_T0.out; have o22 := SZ_w14.out; have o23 := SZ_w16.out; have o24 := SZ_w17.out; have o25 := SZ_w18.out; have o26 := SZ_w19.out; omega)) (fun h => hne g_S (Sv12.out.tx.lt h) (fun _ => by have o0 := SZ_X6.out; have o1 := LO_S.out; have o2 := LB_S.out; have o3 := BL_S.out; have o4 := SZ_w7.out; have o5 := LO_X0.out; have o6 := HI_X0.out; have o7 := SZ_w8.out; have o8 := LO_X1.out; have o9 := HI_X1.out; have o10 := SZ_Y9.out; have o11 := HEX1.out; have o12 := BL_X1.out; have o13 := SZ_w10.out; have o14 := LO_G.out; have o15 := SZ_Y11.out; have o16 := HEG.out; have o17 := BL_G.out; have o18 := SZ_w12.out; have o19 := SZ_w13.out; have o20 := LO_T0.out; have o21 := HI_T0.out; have o22 := SZ_w14.out; have o23 := SZ_w16.out; have o24 := SZ_w17.out; have o25 := SZ_w18.out; have o26 := SZ_w19.out; have oc := HI_S.out h; omega))
      have SZ_w20 : Hid (w19.heap.size ≤ w20.heap.size) := hg.size
      have HB_w20 : Hid (Below W.heap.size W w20) := HB_w19.out.trans (below_of_grown hg HB_w19.out.size hBr)
      have Gv8 : Hid (OVar BG t a_w10 rr xs.length k_w10 (marks 1 xs.length) w20) := GM.out
      clear hg hm htr hBr hne hrG GM q0 q1 Sv12 Gv7 HB_w19
      rw [← HKM.out]
      have q0 := Gv8.out.c0
      have q1 := Gv8.out.c1
      go_wp2_with fail
      refine (heldNur_any w20 t a_w10 rr xs.length k_w10 1 Gv8.out.tx HXL.out (by omega)).mono ?_
      rintro e w21 ⟨rfl, hb⟩
      rw [← HKM.out]
      have SZ_w21 : Hid (w20.heap.size ≤ w21.heap.size) := hb.size
      have Sv14 : Hid (OVar BS t a_S g_S xs.length k_S xs w21) := Sv13.out.below hb
      have Gv9 : Hid (OVar BG t a_w10 rr xs.length k_w10 (marks 1 xs.length) w21) := Gv8.out.below hb
      have HB_w21 : Hid (Below W.heap.size W w21) := HB_w20.out.trans (hb.mono HB_w20.out.size)
      clear hb q0 q1 Sv13 Gv8 HB_w20
      have hacc : Below w21.heap.size w21 w21.drew := (Below.refl _ _).drew
      have HCU_w24 : Hid (∀ w', Below w21.heap.size w21 w' → Below W.heap.size W w') := fun w' h => HB_w21.out.trans (h.mono HB_w21.out.size)
      obtain ⟨m0, m1⟩ := HK.out w21 HB_w21.out
      go_upto_region 31 with fail
      go_cut [19, 20, 21] (fun v e0 e1 wx => ∃ (B : Nat) (aR : Option Addr) (gR kR : Nat), v = .pointer (some ⟨B, 0, none⟩) ∧ e0 = .int .i64 r0 ∧ e1 = .int .i64 r1 ∧ OVar B t aR gR xs.length kR xs wx ∧ w21.heap.size ≤ B ∧ w21.heap.size ≤ gR ∧ Below w21.heap.size w21 wx)
      case first =>
        go_region_held3 (fun w' => w'.cell? ⟨w.heap.size, 0, none⟩ = some (.int .i64 t1) ∧ w'.cell? ⟨w.heap.size, 1, none⟩ = some (.slice b1 vs1.length vc1)) (first | with_reducible exact HK.out _ (HCU_w24.out _ hacc) | with_reducible exact HK.out _ (HCU_w24.out _ (hacc.alloc hacc.size _)) | exact HK.out _ (HCU_w24.out _ (hacc.alloc hacc.size _)) | exact HK.out _ (HCU_w24.out _ ((hacc.setCell (p := ⟨_, 0, none⟩) hUA _).setCell (p := ⟨_, 1, none⟩) hUA _)))
          (first | (go_at_call 14; have _p := hPR; refine (toStringS_any _ a0 c0 xs0 HNX.out (HLW.out _ (HCU_w24.out _ hacc))).mono ?_; rintro e w22 ⟨gS, rfl, hgX, hgY, hlS, hrX, hbX⟩; have hac2 : Below w21.heap.size w21 w22 := hacc.trans (hbX.mono hacc.size); have hPR2 := hPR.later hbX; clear _p hPR; have hPR := hPR2; clear hPR2; clear hacc; have hacc := hac2; clear hac2 hbX hgX hgY hrX) | (go_at_call 14; refine (toStringS_any _ a0 c0 xs0 HNX.out (HLW.out _ (HCU_w24.out _ (hacc.alloc hacc.size _)))).mono ?_; rintro e w22 ⟨gS, rfl, hgX, hgY, hlS, hrX, hbX⟩; have hac2 : Below w21.heap.size w21 w22 := (hacc.alloc hacc.size _).trans (hbX.mono (hacc.alloc hacc.size _).size); have hUA : w21.heap.size ≤ w21.heap.size := Nat.le_refl _; have hPR0 := (Pair.start w21.drew 30).later hbX; have hPR : Pair w21 w22 := ⟨⟨hPR0.below.os, hPR0.below.tape, hPR0.below.output, hPR0.below.size, hPR0.below.block⟩, hPR0.lt, hPR0.cell, hPR0.free⟩; clear hPR0; clear hacc; have hacc := hac2; clear hac2 hbX hgX hgY hrX) | (go_at_call 14; refine (toStringS_any _ a0 c0 xs0 HNX.out (HLW.out _ (HCU_w24.out _ hacc))).mono ?_; rintro e w22 ⟨gS, rfl, hgX, hgY, hlS, hrX, hbX⟩; have hac2 : Below w21.heap.size w21 w22 := hacc.trans (hbX.mono hacc.size); clear hacc; have hacc := hac2; clear hac2 hbX hgX hgY hrX) | (go_at_call 15; have _p := hPR; refine (toNur_any _ t1 b1 vc1 vs1 HNV.out (HNW.out _ (HCU_w24.out _ hacc))).mono ?_; rintro e w23 ⟨gO, rfl, hgX, hgY, hlO, hbX⟩; have hac2 : Below w21.heap.size w21 w23 := hacc.trans (hbX.mono hacc.size); have hPR2 := hPR.later hbX; clear _p hPR; have hPR := hPR2; clear hPR2; have hlS2 := hlS.below hbX; clear hlS; have hlS := hlS2; clear hlS2; clear hacc; have hacc := hac2; clear hac2 hbX hgX hgY) | (go_at_call 15; refine (toNur_any _ t1 b1 vc1 vs1 HNV.out (HNW.out _ (HCU_w24.out _ (hacc.alloc hacc.size _)))).mono ?_; rintro e w23 ⟨gO, rfl, hgX, hgY, hlO, hbX⟩; have hac2 : Below w21.heap.size w21 w23 := (hacc.alloc hacc.size _).trans (hbX.mono (hacc.alloc hacc.size _).size); have hUA := hacc.size; have hPR := (Pair.start _ 30).later hbX; have hlS2 := (hlS.below ((Below.refl _ _).alloc (Nat.le_refl _) _)).below hbX; clear hlS; have hlS := hlS2; clear hlS2; clear hacc; have hacc := hac2; clear hac2 hbX hgX hgY) | (go_at_call 15; refine (toNur_any _ t1 b1 vc1 vs1 HNV.out (HNW.out _ (HCU_w24.out _ hacc))).mono ?_; rintro e w23 ⟨gO, rfl, hgX, hgY, hlO, hbX⟩; have hac2 : Below w21.heap.size w21 w23 := hacc.trans (hbX.mono hacc.size); have hlS2 := hlS.below hbX; clear hlS; have hlS := hlS2; clear hlS2; clear hacc; have hacc := hac2; clear hac2 hbX hgX hgY) | (go_at_call 29; have _p := hPR; refine (HI.out _ _ _ _ hlS hlO.nums).mono ?_; rintro e w24 ⟨a_w24, g_w24, k_w24, rfl, hgX, hinR, hbX⟩; have hac2 : Below w21.heap.size w21 w24 := hacc.trans (hbX.mono hacc.size); have hgU : w21.heap.size ≤ g_w24 := Nat.le_trans hacc.size hgX; have hgT := Nat.lt_of_lt_of_le hPR.lt hgX; have hPR2 := hPR.later hbX; clear _p hPR; have hPR := hPR2; clear hPR2; clear hacc; have hacc := hac2; clear hac2 hbX  hgX hlS hlO; have v0 := hPR.cell 0 _ rfl; have v1 := hPR.cell 1 _ rfl; have z0 := hPR.free 0; have z1 := hPR.free 1) | (go_at_call 29; refine (HI.out _ _ _ _ (hlS.below ((Below.refl _ _).alloc (Nat.le_refl _) _)) (hlO.below ((Below.refl _ _).alloc (Nat.le_refl _) _)).nums).mono ?_; rintro e w24 ⟨a_w24, g_w24, k_w24, rfl, hgX, hinR, hbX⟩; have hac2 : Below w21.heap.size w21 w24 := (hacc.alloc hacc.size _).trans (hbX.mono (hacc.alloc hacc.size _).size); have hgU : w21.heap.size ≤ g_w24 := Nat.le_trans (hacc.alloc hacc.size _).size hgX; have hgT := Nat.lt_of_lt_of_le (Pair.start _ 30).lt hgX; have hUA := hacc.size; have hPR := (Pair.start _ 30).later hbX; clear hacc; have hacc := hac2; clear hac2 hbX  hgX hlS hlO; have v0 := hPR.cell 0 _ rfl; have v1 := hPR.cell 1 _ rfl; have z0 := hPR.free 0; have z1 := hPR.free 1) | (go_at_call 29; refine (HI.out _ _ _ _ hlS hlO.nums).mono ?_; rintro e w24 ⟨a_w24, g_w24, k_w24, rfl, hgX, hinR, hbX⟩; have hac2 : Below w21.heap.size w21 w24 := hacc.trans (hbX.mono hacc.size); have hgU : w21.heap.size ≤ g_w24 := Nat.le_trans hacc.size hgX; clear hacc; have hacc := hac2; clear hac2 hbX  hgX hlS hlO))
        all_goals
          go_wp2_with fail
          go_meet
          first
            | exact ⟨_, a_w24, g_w24, k_w24, rfl, rfl, rfl, ovar_put hPR hinR hgT rfl, hUA, hgU, (hacc.setCell (p := ⟨_, 0, none⟩) hUA _).setCell (p := ⟨_, 1, none⟩) hUA _⟩
            | exact ⟨_, a_w24, g_w24, k_w24, rfl, rfl, rfl, OVar.start w24 t a_w24 g_w24 xs.length k_w24 xs _ rfl hinR, hacc.size, hgU, hacc.alloc hacc.size _⟩
      case rest =>
        obtain ⟨BHh, a_Hh, g_Hh, k_Hh, rfl, rfl, rfl, hV, hBU, hgU, hU⟩ := hcut
        obtain ⟨X25, hXe⟩ : ∃ X, X = wc := ⟨_, rfl⟩
        rw [← hXe] at hV hU ⊢
        have Hhbx : Hid (OVar BHh t a_Hh g_Hh xs.length k_Hh xs X25) := hV
        have LO_Hh : Hid (w21.heap.size ≤ g_Hh) := hgU
        have LB_Hh : Hid (w21.heap.size ≤ BHh) := hBU
        have HI_Hh : Hid (0 < xs.length → g_Hh < X25.heap.size) := fun h => hV.tx.lt h
        have BL_Hh : Hid (BHh < X25.heap.size) := hV.lt
        have LW_Hh : Hid (W.heap.size ≤ g_Hh) := by have h1 := HB_w21.out.size; show W.heap.size ≤ g_Hh; omega
        have SZ_X25 : Hid (w21.heap.size ≤ X25.heap.size) := hU.size
        have Sv15 : Hid (OVar BS t a_S g_S xs.length k_S xs X25) := Sv14.out.below hU
        have Gv10 : Hid (OVar BG t a_w10 rr xs.length k_w10 (marks 1 xs.length) X25) := Gv9.out.below hU
        have HB_X25 : Hid (Below W.heap.size W X25) := HB_w21.out.trans (hU.mono HB_w21.out.size)
        have Hhv0 : Hid (OVar BHh t a_Hh g_Hh xs.length k_Hh xs X25) := Hhbx.out
        clear hV hBU hgU hU hXe m0 m1 hacc Hhbx HCU_w24 Sv14 Gv9 HB_w21
        have p0 := Hhv0.out.c0
        have p1 := Hhv0.out.c1
        have q0 := Sv15.out.c0
        have q1 := Sv15.out.c1
        go_wp2_with fail
        refine (eqNur_same X25 t a_Hh a_S g_Hh g_S xs.length k_Hh k_S xs rfl HXL.out Hhv0.out.tx Sv15.out.tx).mono ?_
        rintro e w26 ⟨rfl, hb⟩
        have SZ_w26 : Hid (X25.heap.size ≤ w26.heap.size) := hb.size
        have Sv16 : Hid (OVar BS t a_S g_S xs.length k_S xs w26) := Sv15.out.below hb
        have Gv11 : Hid (OVar BG t a_w10 rr xs.length k_w10 (marks 1 xs.length) w26) := Gv10.out.below hb
        have Hhv1 : Hid (OVar BHh t a_Hh g_Hh xs.length k_Hh xs w26) := Hhv0.out.below hb
        have HB_w26 : Hid (Below W.heap.size W w26) := HB_X25.out.trans (hb.mono HB_X25.out.size)
        clear hb p0 p1 q0 q1 Sv15 Gv10 Hhv0 HB_X25
        clear Hhv1
        have q0 := Gv11.out.c0
        have q1 := Gv11.out.c1
        go_wp2_with fail
        refine (heldNur_any w26 t a_w10 rr xs.length k_w10 1 Gv11.out.tx HXL.out (by omega)).mono ?_
        rintro e w27 ⟨rfl, hb⟩
        rw [← HKM.out]
        have SZ_w27 : Hid (w26.heap.size ≤ w27.heap.size) := hb.size
        have Sv17 : Hid (OVar BS t a_S g_S xs.length k_S xs w27) := Sv16.out.below hb
        have Gv12 : Hid (OVar BG t a_w10 rr xs.length k_w10 (marks 1 xs.length) w27) := Gv11.out.below hb
        have HB_w27 : Hid (Below W.heap.size W w27) := HB_w26.out.trans (hb.mono HB_w26.out.size)
        clear hb q0 q1 Sv16 Gv11 HB_w26
        go_wp2
        go_ret
        exact ⟨rfl, HEnd.out _ HB_w27.out⟩

set_option maxRecDepth 100000 in
theorem lifted (os : Os) (started : os.Started) (H : Type) (enc : TypeId × Value → H) :
    ReturnsInHanded {} Try.checked os 6 .any (Rows.fnExactYoungAllocSpec.pre6 enc Try.prog Try.f6 Rows.fnExactYoungAllocRow.domain false) (Rows.fnExactYoungAllocSpec.post enc Try.prog Try.f6 false true false false) := by
  refine returnsInHanded_of_change (C := Try.checked) own started (by kernel_rfl) Try.func6
    (ChangeSpec.witness6 (enc := enc) (C := Try.checked) false ⟨#[], #[.slice none 0 0, .agg #[.int .i64 0, .slice none 0 0], .int .i64 0], []⟩ 8 (by kernel_rfl) (by kernel_rfl) (by kernel_rfl) (by kernel_rfl)) ?_
  intro W base args ds gs before hval0 hW hcnd _
  have hval : ∀ (j : Nat) t v, Try.f6.params[j]? = some t → args[j]? = some v → Value.okWide Try.prog W .any base t v := hval0
  have hW' := hW
  obtain ⟨p, q, hA0, hV, rfl, hfz, hnd⟩ := hW
  have hA : DataW.TrodAll enc Try.prog W 0 (fun _ => true) true Try.f6.params.toList args.toList ds p := hA0
  rw [Try.params6] at hA hval
  obtain ⟨v0, vs_0, d0, ds0, p0, q0, hargs, rfl, rfl, h0, r0⟩ := trodAll_cons hA
  obtain ⟨v1, vs_1, d1, ds1, p1, q1, rfl, rfl, rfl, h1, r1⟩ := trodAll_cons r0
  obtain ⟨v2, vs_2, d2, ds2, p2, q2, rfl, rfl, rfl, h2, r2⟩ := trodAll_cons r1
  obtain ⟨rfl, rfl, rfl⟩ := trodAll_nil r2
  obtain rfl : args = #[v0, v1, v2] := by cases args; simp_all
  obtain ⟨rfl, rfl⟩ := trodVars_none hV
  have k_0 := h0
  have lt_0 : ∀ x ∈ p0, x.block < W.heap.size := by obtain ⟨m, hm⟩ := k_0; exact DataW.trod_lt m _ _ _ hm
  obtain ⟨a0, c0, xs0, rfl, hl0, hm0, hz0⟩ := strs_of (hval 0 22 v0 rfl rfl) h0
  have k_1 := h1
  have lt_1 : ∀ x ∈ p1, x.block < W.heap.size := by obtain ⟨m, hm⟩ := k_1; exact DataW.trod_lt m _ _ _ hm
  obtain ⟨t1, b1, vc1, vs1, rfl, ht1, hk1, hn1, hw1⟩ := nur_of (hval 1 25 v1 rfl rfl) h1
  obtain ⟨x2, rfl, rfl, rfl, hx2⟩ := open_int Try.underlying2 (hval 2 2 v2 rfl rfl) h2
  clear hA0 hval0
  refine (walk a0 c0 xs0 t1 b1 vc1 vs1 x2 W hl0 hm0 hz0 ht1 hk1 hn1 hw1 hx2).mono fun e W' ⟨he, bel⟩ => ?_
  subst he
  exact ⟨_, rfl, _, _, _, [], _, [], hW', trodAll_mk1 (shut_bool Try.underlying4 _), (trodAll_cons_mk (Below.trod laidOut (by kernel_rfl) (of_decide_eq_true (by kernel_rfl)) k_0 bel lt_0) (trodAll_cons_mk (Below.trod laidOut (by kernel_rfl) (of_decide_eq_true (by kernel_rfl)) k_1 bel lt_1) (trodAll_cons_mk (shut_int Try.underlying2 hx2) trodAll_mk0))), rfl, bel.frame _, fun h => by cases h⟩

theorem over : Rows.fnExactYoungAllocRow.holds Try.pinned (OpenSpec.ofChange Rows.fnExactYoungAllocSpec) :=
  OpenClaim.holds_of_wide 6 Try.f6 rfl rfl rfl rfl rfl rfl rfl ⟨rfl, rfl, rfl, rfl, rfl⟩ rfl rfl rfl rfl rfl (by kernel_rfl) Try.func6 (by kernel_rfl)
    (of_decide_eq_true (by kernel_rfl)) (by unfold Func.isWrapper; first | (rw [if_pos (by decide +kernel)]; kernel_rfl) | (rw [if_neg (by decide +kernel)]; exact ⟨rfl, rfl⟩))
    (fun os started H enc _ => lifted os started H enc)

theorem proved : Rows.FnExactYoungAllocSaid := over
#print axioms proved
end Go.Proofs.Ytmnmkbhfilfifaa.fnExactYoungAlloc
