/-
  FnExactForwarded: for every slice of texts, every object and every two slices of whole numbers the law that holds the program's Forwarded against the specification's Forwarded returns true, and the arguments read as before; no condition.
-/
import Derived.Test.YtodbdpgjoofdfaaFwd5
import Derived.Test.YtodbdpgjoofdfaaObjVar
import Derived.Deep.RegionHeld3
import Derived.Deep.Cut
import Derived.Deep.CutRange
import Derived.Deep.DeepCutAuto
import Derived.ProofKit
import Derived.OpenShut
import Derived.ShutString
import Derived.ChangeOld
import Derived.Below
import Derived.Lib.SmallJoins
namespace Go.Proofs.Ytodbdpgjoofdfaa.fnExactForwarded
open Go.ChangeShapes Go.WideShapes Go.ChangeAt Go.RowKit
open kinds ints obj txt

theorem own : ownKnob Try.prog.godebug = none := by kernel_rfl
theorem laidOut : laidOutB Try.prog = true := by kernel_rfl


set_option linter.unusedVariables false in
set_option maxHeartbeats 4000000 in
set_option maxRecDepth 20000 in
theorem walk (a0 : Option Addr) (c0 : Nat) (xs0 : List ByteArray) (t1 : Int) (b1 : Option Addr) (vc1 : Nat) (vs1 : List Int) (b2 : Option Addr) (vc2 : Nat) (vs2 : List Int) (b3 : Option Addr) (vc3 : Nat) (vs3 : List Int) (w : World) (hl0 : Strs w a0 xs0) (hm0 : xs0.length ≤ maxLen) (hz0 : ∀ i (hi : i < xs0.length), xs0[i].size ≤ maxLen) (ht1 : (Lit.int .i64 t1).wf = true) (hk1 : Nums w b1 vs1) (hn1 : vs1.length ≤ maxLen) (hw1 : ∀ x ∈ vs1, (Lit.int .i64 x).wf = true) (hk2 : Nums w b2 vs2) (hn2 : vs2.length ≤ maxLen) (hw2 : ∀ x ∈ vs2, (Lit.int .i64 x).wf = true) (hk3 : Nums w b3 vs3) (hn3 : vs3.length ≤ maxLen) (hw3 : ∀ x ∈ vs3, (Lit.int .i64 x).wf = true) :
    Calls Try.prog 8 #[.slice a0 xs0.length c0, .agg #[.int .i64 t1, .slice b1 vs1.length vc1], .slice b2 vs2.length vc2, .slice b3 vs3.length vc3] w fun e w' => e = .returned (.bool true) ∧ Below w.heap.size w w' := by
  unfold maxLen at hn2 hn3
  have HL : Hid (Strs w a0 xs0) := hl0
  have HNU : Hid (Nums w b1 vs1) := hk1
  obtain ⟨W, hW⟩ : ∃ W, W = w.alloc (.cells #[.int .i64 t1, .slice b1 vs1.length vc1] 42) := ⟨_, rfl⟩
  have HB0 : Hid (Below w.heap.size w W) := by
    have h1 : Below w.heap.size w W := by rw [hW]; exact (Below.refl _ _).alloc (Nat.le_refl _) _
    exact h1
  have hsz : w.heap.size < W.heap.size := by rw [hW]; simp
  have HK : Hid (∀ w', Below W.heap.size W w' → w'.cell? ⟨w.heap.size, 0, none⟩ = some (.int .i64 t1) ∧ w'.cell? ⟨w.heap.size, 1, none⟩ = some (.slice b1 vs1.length vc1)) := fun w' h =>
    ⟨by rw [h.cell (p := ⟨w.heap.size, 0, none⟩) hsz, hW, World.cell?_alloc_new]; rfl, by rw [h.cell (p := ⟨w.heap.size, 1, none⟩) hsz, hW, World.cell?_alloc_new]; rfl⟩
  have HW : Hid (W = w.alloc (.cells #[.int .i64 t1, .slice b1 vs1.length vc1] 42)) := hW
  have HLW : Hid (∀ w', Below W.heap.size W w' → Strs w' a0 xs0) := fun w' h => (HL.out.below HB0.out).below h
  have HNW : Hid (∀ w', Below W.heap.size W w' → Nums w' b1 vs1) := fun w' h => (HNU.out.below HB0.out).below h
  have HN2 : Hid (∀ w', Below W.heap.size W w' → Nums w' b2 vs2) := fun w' h => (hk2.below HB0.out).below h
  have HN3 : Hid (∀ w', Below W.heap.size W w' → Nums w' b3 vs3) := fun w' h => (hk3.below HB0.out).below h
  have HEnd : Hid (∀ w', Below W.heap.size W w' → Below w.heap.size w w') := fun w' h => HB0.out.trans (h.mono HB0.out.size)
  have HSZ : Hid (∀ w, Strs w a0 xs0 → Calls _ _ _ w _) := fun w h => szStringS_any w a0 c0 xs0 1048576 (by omega) (by omega) hm0 h hz0
  have HSO : Hid (∀ (left : Int) w, 0 ≤ left → left ≤ 1048576 → Calls _ _ _ w _) := fun left w q1 q2 => szObj_any w t1 b1 vc1 vs1 left q1 q2 hn1
  have HWF : Hid (∀ x ∈ vs1, x < 9223372036854775808) := fun x hx => i64_top (hw1 x hx)
  have HWT : Hid (∀ x ∈ vs3, x < 9223372036854775808) := fun x hx => i64_top (hw3 x hx)
  clear hW hl0 hk1 hk2 hk3 hz0 hw1 hw2 hw3 ht1 hm0 hn1
  by_cases hbig2 : (1048576 : Int) < (vs2.length : Int)
  · go_enter Try.func8, Try.ntmps8
    go_wp2
    go_ret
    exact ⟨rfl, by rw [← HW.out]; exact HB0.out⟩
  by_cases hbig3 : (1048576 : Int) < (vs3.length : Int)
  · go_enter Try.func8, Try.ntmps8
    go_wp2
    go_ret
    exact ⟨rfl, by rw [← HW.out]; exact HB0.out⟩
  have hnf : vs2.length ≤ 1048576 := by omega
  have hnt : vs3.length ≤ 1048576 := by omega
  go_enter Try.func8, Try.ntmps8
  go_wp2_with fail
  rw [← HW.out]
  refine (HSZ.out W (HLW.out W (Below.refl _ _))).mono ?_
  rintro e w1 ⟨r, rfl, hr0, hr1, hr2, hw⟩
  have HB1 : Hid (Below W.heap.size W w1) := by first | exact hw | (subst hw; exact Below.refl _ _)
  have HR1 : Hid (0 ≤ r → xs0.length ≤ 1048576 ∧ ∀ i (hi : i < xs0.length), xs0[i].size ≤ 1048576) := hr2
  clear hr2 hw hbig2 hbig3
  by_cases hneg : r < 0
  · go_wp2
    go_ret
    exact ⟨rfl, HEnd.out _ HB1.out⟩
  obtain ⟨hn, hz⟩ := HR1.out (by omega)
  have HZ : Hid (∀ i (hi : i < xs0.length), xs0[i].size ≤ 1048576) := hz
  clear hz HR1
  obtain ⟨m0, m1⟩ := HK.out w1 HB1.out
  go_wp2_with fail
  refine (HSO.out r w1 (by omega) hr1).mono ?_
  rintro e w2 ⟨r2, rfl, hs0, hs1, hs2, hb2⟩
  have HB2 : Hid (Below W.heap.size W w2) := HB1.out.trans (hb2.mono HB1.out.size)
  have HR2 : Hid (0 ≤ r2 → vs1.length ≤ 1048576) := hs2
  clear hs2 hb2 m0 m1
  by_cases hneg2 : r2 < 0
  · go_wp2
    go_ret
    exact ⟨rfl, HEnd.out _ HB2.out⟩
  have hnv := HR2.out (by omega)
  have HS : Hid (∀ (w : World) (a : Option Addr) (cap : Nat) (b : Option Addr) (vc : Nat) (c : Option Addr) (cc : Nat) (d : Option Addr) (cd : Nat), Strs w a xs0 → Nums w b vs1 → Nums w c vs2 → Nums w d vs3 → _) := fun w a cap b vc c cc d cd q1 q2 q3 q4 => spec_forward w a cap xs0 t1 b vc vs1 c d cc cd vs2 vs3 hn HZ.out q1 q2 HWF.out hnf hnt q3 q4 HWT.out
  have HI : Hid (∀ (w : World) (a : Option Addr) (cap : Nat) (b : Option Addr) (vc : Nat) (c : Option Addr) (cc : Nat) (d : Option Addr) (cd : Nat), Strs w a xs0 → Nums w b vs1 → Nums w c vs2 → Nums w d vs3 → _) := fun w a cap b vc c cc d cd q1 q2 q3 q4 => impl_forward w a cap xs0 t1 b vc vs1 c d cc cd vs2 vs3 hn HZ.out q1 q2 HWF.out hnf hnt q3 q4 HWT.out
  unfold FOut at HS HI
  have hvl : (fwV xs0 t1 vs1 vs2 vs3).length ≤ 1048576 := by have := fwV_len xs0 t1 vs1 vs2 vs3; omega
  obtain ⟨n, hnn⟩ : ∃ n, n = (fwV xs0 t1 vs1 vs2 vs3).length := ⟨_, rfl⟩
  rw [← hnn] at HS HI hvl
  have HLN : Hid ((fwV xs0 t1 vs1 vs2 vs3).length = n) := hnn.symm
  generalize fwT xs0 t1 vs1 vs2 vs3 = t at HS HI
  generalize fwV xs0 t1 vs1 vs2 vs3 = vs at HS HI HLN
  clear hnn hr0 hr1 hs0 hs1 hneg HR2
  have hacc : Below w2.heap.size w2 w2.drew := (Below.refl _ _).drew
  have HCUA : Hid (∀ w', Below w2.heap.size w2 w' → Below W.heap.size W w') := fun w' h => HB2.out.trans (h.mono HB2.out.size)
  obtain ⟨m0, m1⟩ := HK.out w2 HB2.out
  have tokF : True := trivial
  go_upto_region 12 with fail
  go_cut [10] (fun v wx => ∃ (B : Nat) (aR : Option Addr) (gR kR : Nat), v = .pointer (some ⟨B, 0, none⟩) ∧ OVar B t aR gR n kR vs wx ∧ Below w2.heap.size w2 wx)
  case first =>
    go_region_held3 (fun w' => w'.cell? ⟨w.heap.size, 0, none⟩ = some (.int .i64 t1) ∧ w'.cell? ⟨w.heap.size, 1, none⟩ = some (.slice b1 vs1.length vc1)) (first | exact HK.out _ (HCUA.out _ hacc) | exact HK.out _ (HCUA.out _ (hacc.alloc hacc.size _)) | exact HK.out _ (HCUA.out _ ((hacc.setCell (p := ⟨_, 0, none⟩) hUA _).setCell (p := ⟨_, 1, none⟩) hUA _)))
      (first | (go_at_call 26; have _p := hPR; refine (toStringS_any _ a0 c0 xs0 hn (HLW.out _ (HCUA.out _ hacc))).mono ?_; rintro e wS ⟨gS, rfl, hgX, hgY, hlS, hrX, hbX⟩; have hac2 : Below w2.heap.size w2 wS := hacc.trans (hbX.mono hacc.size); have hPR2 := hPR.later hbX; clear _p hPR; have hPR := hPR2; clear hPR2; clear hacc; have hacc := hac2; clear hac2 hbX hgX hgY hrX) | (go_at_call 26; refine (toStringS_any _ a0 c0 xs0 hn (HLW.out _ (HCUA.out _ (hacc.alloc hacc.size _)))).mono ?_; rintro e wS ⟨gS, rfl, hgX, hgY, hlS, hrX, hbX⟩; have hac2 : Below w2.heap.size w2 wS := (hacc.alloc hacc.size _).trans (hbX.mono (hacc.alloc hacc.size _).size); have hUA : w2.heap.size ≤ w2.heap.size := Nat.le_refl _; have hPR0 := (Pair.start w2.drew 27).later hbX; have hPR : Pair w2 wS := ⟨⟨hPR0.below.os, hPR0.below.tape, hPR0.below.output, hPR0.below.size, hPR0.below.block⟩, hPR0.lt, hPR0.cell, hPR0.free⟩; clear hPR0; clear hacc; have hacc := hac2; clear hac2 hbX hgX hgY hrX) | (go_at_call 26; refine (toStringS_any _ a0 c0 xs0 hn (HLW.out _ (HCUA.out _ hacc))).mono ?_; rintro e wS ⟨gS, rfl, hgX, hgY, hlS, hrX, hbX⟩; have hac2 : Below w2.heap.size w2 wS := hacc.trans (hbX.mono hacc.size); clear hacc; have hacc := hac2; clear hac2 hbX hgX hgY hrX) | (go_at_call 27; have _p := hPR; refine (toObj_any _ t1 b1 vc1 vs1 hnv (HNW.out _ (HCUA.out _ hacc))).mono ?_; rintro e wO ⟨gO, rfl, hgX, hgY, hlO, hbX⟩; have hac2 : Below w2.heap.size w2 wO := hacc.trans (hbX.mono hacc.size); have hPR2 := hPR.later hbX; clear _p hPR; have hPR := hPR2; clear hPR2; have hlS2 := hlS.below hbX; clear hlS; have hlS := hlS2; clear hlS2; clear hacc; have hacc := hac2; clear hac2 hbX hgX hgY) | (go_at_call 27; refine (toObj_any _ t1 b1 vc1 vs1 hnv (HNW.out _ (HCUA.out _ (hacc.alloc hacc.size _)))).mono ?_; rintro e wO ⟨gO, rfl, hgX, hgY, hlO, hbX⟩; have hac2 : Below w2.heap.size w2 wO := (hacc.alloc hacc.size _).trans (hbX.mono (hacc.alloc hacc.size _).size); have hUA := hacc.size; have hPR := (Pair.start _ 27).later hbX; have hlS2 := (hlS.below ((Below.refl _ _).alloc (Nat.le_refl _) _)).below hbX; clear hlS; have hlS := hlS2; clear hlS2; clear hacc; have hacc := hac2; clear hac2 hbX hgX hgY) | (go_at_call 27; refine (toObj_any _ t1 b1 vc1 vs1 hnv (HNW.out _ (HCUA.out _ hacc))).mono ?_; rintro e wO ⟨gO, rfl, hgX, hgY, hlO, hbX⟩; have hac2 : Below w2.heap.size w2 wO := hacc.trans (hbX.mono hacc.size); have hlS2 := hlS.below hbX; clear hlS; have hlS := hlS2; clear hlS2; clear hacc; have hacc := hac2; clear hac2 hbX hgX hgY) | (go_at_call 33; have _t := tokF; have _p := hPR; refine (toInt64S_any _ b2 vc2 vs2 hnf (HN2.out _ (HCUA.out _ hacc))).mono ?_; rintro e wF ⟨gF, rfl, hgX, hgY, hlF, hbX⟩; have hac2 : Below w2.heap.size w2 wF := hacc.trans (hbX.mono hacc.size); have hPR2 := hPR.later hbX; clear _p hPR; have hPR := hPR2; clear hPR2; have hlS2 := hlS.below hbX; clear hlS; have hlS := hlS2; clear hlS2; have hlO2 := hlO.below hbX; clear hlO; have hlO := hlO2; clear hlO2; clear hacc; have hacc := hac2; clear hac2 hbX hgX hgY tokF _t) | (go_at_call 33; have _t := tokF; refine (toInt64S_any _ b2 vc2 vs2 hnf (HN2.out _ (HCUA.out _ (hacc.alloc hacc.size _)))).mono ?_; rintro e wF ⟨gF, rfl, hgX, hgY, hlF, hbX⟩; have hac2 : Below w2.heap.size w2 wF := (hacc.alloc hacc.size _).trans (hbX.mono (hacc.alloc hacc.size _).size); have hUA := hacc.size; have hPR := (Pair.start _ 27).later hbX; have hlS2 := (hlS.below ((Below.refl _ _).alloc (Nat.le_refl _) _)).below hbX; clear hlS; have hlS := hlS2; clear hlS2; have hlO2 := (hlO.below ((Below.refl _ _).alloc (Nat.le_refl _) _)).below hbX; clear hlO; have hlO := hlO2; clear hlO2; clear hacc; have hacc := hac2; clear hac2 hbX hgX hgY tokF _t) | (go_at_call 33; have _t := tokF; refine (toInt64S_any _ b2 vc2 vs2 hnf (HN2.out _ (HCUA.out _ hacc))).mono ?_; rintro e wF ⟨gF, rfl, hgX, hgY, hlF, hbX⟩; have hac2 : Below w2.heap.size w2 wF := hacc.trans (hbX.mono hacc.size); have hlS2 := hlS.below hbX; clear hlS; have hlS := hlS2; clear hlS2; have hlO2 := hlO.below hbX; clear hlO; have hlO := hlO2; clear hlO2; clear hacc; have hacc := hac2; clear hac2 hbX hgX hgY tokF _t) | (go_at_call 33; have _p := hPR; refine (toInt64S_any _ b3 vc3 vs3 hnt (HN3.out _ (HCUA.out _ hacc))).mono ?_; rintro e wT ⟨gT, rfl, hgX, hgY, hlT, hbX⟩; have hac2 : Below w2.heap.size w2 wT := hacc.trans (hbX.mono hacc.size); have hPR2 := hPR.later hbX; clear _p hPR; have hPR := hPR2; clear hPR2; have hlS2 := hlS.below hbX; clear hlS; have hlS := hlS2; clear hlS2; have hlO2 := hlO.below hbX; clear hlO; have hlO := hlO2; clear hlO2; have hlF2 := hlF.below hbX; clear hlF; have hlF := hlF2; clear hlF2; clear hacc; have hacc := hac2; clear hac2 hbX hgX hgY) | (go_at_call 33; refine (toInt64S_any _ b3 vc3 vs3 hnt (HN3.out _ (HCUA.out _ (hacc.alloc hacc.size _)))).mono ?_; rintro e wT ⟨gT, rfl, hgX, hgY, hlT, hbX⟩; have hac2 : Below w2.heap.size w2 wT := (hacc.alloc hacc.size _).trans (hbX.mono (hacc.alloc hacc.size _).size); have hUA := hacc.size; have hPR := (Pair.start _ 27).later hbX; have hlS2 := (hlS.below ((Below.refl _ _).alloc (Nat.le_refl _) _)).below hbX; clear hlS; have hlS := hlS2; clear hlS2; have hlO2 := (hlO.below ((Below.refl _ _).alloc (Nat.le_refl _) _)).below hbX; clear hlO; have hlO := hlO2; clear hlO2; have hlF2 := (hlF.below ((Below.refl _ _).alloc (Nat.le_refl _) _)).below hbX; clear hlF; have hlF := hlF2; clear hlF2; clear hacc; have hacc := hac2; clear hac2 hbX hgX hgY) | (go_at_call 33; refine (toInt64S_any _ b3 vc3 vs3 hnt (HN3.out _ (HCUA.out _ hacc))).mono ?_; rintro e wT ⟨gT, rfl, hgX, hgY, hlT, hbX⟩; have hac2 : Below w2.heap.size w2 wT := hacc.trans (hbX.mono hacc.size); have hlS2 := hlS.below hbX; clear hlS; have hlS := hlS2; clear hlS2; have hlO2 := hlO.below hbX; clear hlO; have hlO := hlO2; clear hlO2; have hlF2 := hlF.below hbX; clear hlF; have hlF := hlF2; clear hlF2; clear hacc; have hacc := hac2; clear hac2 hbX hgX hgY) | (go_at_call 22; have _p := hPR; refine (HS.out _ _ _ _ _ _ _ _ _ hlS hlO.nums hlF.nums hlT.nums).mono ?_; rintro e wR ⟨aR, gR, kR, rfl, hgX, hinR, hbX⟩; have hac2 : Below w2.heap.size w2 wR := hacc.trans (hbX.mono hacc.size); have hgT := Nat.lt_of_lt_of_le hPR.lt hgX; have hPR2 := hPR.later hbX; clear _p hPR; have hPR := hPR2; clear hPR2; clear hacc; have hacc := hac2; clear hac2 hbX  hgX hlS hlO hlF hlT; have v0 := hPR.cell 0 _ rfl; have v1 := hPR.cell 1 _ rfl; have z0 := hPR.free 0; have z1 := hPR.free 1) | (go_at_call 22; refine (HS.out _ _ _ _ _ _ _ _ _ (hlS.below ((Below.refl _ _).alloc (Nat.le_refl _) _)) (hlO.below ((Below.refl _ _).alloc (Nat.le_refl _) _)).nums (hlF.below ((Below.refl _ _).alloc (Nat.le_refl _) _)).nums (hlT.below ((Below.refl _ _).alloc (Nat.le_refl _) _)).nums).mono ?_; rintro e wR ⟨aR, gR, kR, rfl, hgX, hinR, hbX⟩; have hac2 : Below w2.heap.size w2 wR := (hacc.alloc hacc.size _).trans (hbX.mono (hacc.alloc hacc.size _).size); have hgT := Nat.lt_of_lt_of_le (Pair.start _ 27).lt hgX; have hUA := hacc.size; have hPR := (Pair.start _ 27).later hbX; clear hacc; have hacc := hac2; clear hac2 hbX  hgX hlS hlO hlF hlT; have v0 := hPR.cell 0 _ rfl; have v1 := hPR.cell 1 _ rfl; have z0 := hPR.free 0; have z1 := hPR.free 1) | (go_at_call 22; refine (HS.out _ _ _ _ _ _ _ _ _ hlS hlO.nums hlF.nums hlT.nums).mono ?_; rintro e wR ⟨aR, gR, kR, rfl, hgX, hinR, hbX⟩; have hac2 : Below w2.heap.size w2 wR := hacc.trans (hbX.mono hacc.size); clear hacc; have hacc := hac2; clear hac2 hbX  hgX hlS hlO hlF hlT))
    all_goals
      go_wp2_with fail
      go_meet
      first
        | exact ⟨_, aR, gR, kR, rfl, ovar_put hPR hinR hgT HLN.out, (hacc.setCell (p := ⟨_, 0, none⟩) hUA _).setCell (p := ⟨_, 1, none⟩) hUA _⟩
        | exact ⟨_, aR, gR, kR, rfl, OVar.start wR t aR gR n kR vs _ HLN.out hinR, hacc.alloc hacc.size _⟩
  case rest =>
    obtain ⟨B1, aR, gR, kR, rfl, hV, hU⟩ := hcut
    have V1v0 : Hid (OVar B1 t aR gR n kR vs wc) := hV
    obtain ⟨X, hXe⟩ : ∃ X, X = wc := ⟨_, rfl⟩
    rw [← hXe] at V1v0 hU ⊢
    clear hV m0 m1 hacc tokF hXe
    have HBX : Hid (Below W.heap.size W X) := HCUA.out _ hU
    clear hU
    go_wp2_with fail
    refine (toStringS_any X a0 c0 xs0 hn (HLW.out _ HBX.out)).mono ?_
    rintro e w3 ⟨gB, rfl, hgB, hgB2, hlB, hrB, hb3⟩
    have OB : Hid (B1 < gB ∧ (0 < vs.length → gR < gB) ∧ gB < w3.heap.size ∧ W.heap.size ≤ gB) := ⟨by have := V1v0.out.lt; omega, fun h => by have := V1v0.out.tx.lt h; omega, hgB2, by have := HBX.out.size; omega⟩
    have V1v1 : Hid (OVar B1 t aR gR n kR vs w3) := V1v0.out.below hb3
    have HB3 : Hid (Below W.heap.size W w3) := HBX.out.trans (hb3.mono HBX.out.size)
    have X0v0 : Hid (Txts w3 (some ⟨gB, 0, none⟩) gB xs0) := txts_of hlB hrB
    clear hb3 hgB hgB2 hlB hrB V1v0
    obtain ⟨m0, m1⟩ := HK.out w3 HB3.out
    go_wp2_with fail
    refine (toObj_any w3 t1 b1 vc1 vs1 hnv (HNW.out _ HB3.out)).mono ?_
    rintro e w4 ⟨gX, rfl, hgX, hgX2, hlX, hb4⟩
    have V1v2 : Hid (OVar B1 t aR gR n kR vs w4) := V1v1.out.below hb4
    have X0v1 : Hid (Txts w4 (some ⟨gB, 0, none⟩) gB xs0) := X0v0.out.below hb4
    have HB4 : Hid (Below W.heap.size W w4) := HB3.out.trans (hb4.mono HB3.out.size)
    obtain ⟨Y, hY⟩ : ∃ Y, Y = w4.alloc (.cells #[.int .i64 t1, .slice (some ⟨gX, 0, none⟩) vs1.length vs1.length] 27) := ⟨_, rfl⟩
    have HY : Hid (Y = w4.alloc (.cells #[.int .i64 t1, .slice (some ⟨gX, 0, none⟩) vs1.length vs1.length] 27)) := hY
    have hYB : Below w4.heap.size w4 Y := by rw [hY]; exact (Below.refl _ _).alloc (Nat.le_refl _) _
    obtain ⟨BX, hBX⟩ : ∃ BX, BX = w4.heap.size := ⟨_, rfl⟩
    have HEX : Hid (BX = w4.heap.size) := hBX
    have X1v0 : Hid (OVar BX t1 (some ⟨gX, 0, none⟩) gX vs1.length vs1.length vs1 Y) := by rw [hY, hBX]; exact OVar.start w4 t1 _ gX _ _ vs1 _ rfl hlX
    have OX : Hid (w3.heap.size ≤ gX ∧ gX < BX ∧ BX < Y.heap.size) := ⟨hgX, by rw [hBX]; exact hgX2, X1v0.out.lt⟩
    have V1v3 : Hid (OVar B1 t aR gR n kR vs Y) := V1v2.out.below hYB
    have X0v2 : Hid (Txts Y (some ⟨gB, 0, none⟩) gB xs0) := X0v1.out.below hYB
    have HBY : Hid (Below W.heap.size W Y) := HB4.out.trans (hYB.mono HB4.out.size)
    clear hb4 hY hYB hBX hgX hgX2 hlX m0 m1 V1v1 X0v0 V1v2 X0v1
    go_wp2_with fail
    rw [← HY.out, ← HEX.out]
    refine (toInt64S_any Y b2 vc2 vs2 hnf (HN2.out _ HBY.out)).mono ?_
    rintro e w5 ⟨gP, rfl, hgP, hgP2, hlP, hb5⟩
    have V1v4 : Hid (OVar B1 t aR gR n kR vs w5) := V1v3.out.below hb5
    have X0v3 : Hid (Txts w5 (some ⟨gB, 0, none⟩) gB xs0) := X0v2.out.below hb5
    have X1v1 : Hid (OVar BX t1 (some ⟨gX, 0, none⟩) gX vs1.length vs1.length vs1 w5) := X1v0.out.below hb5
    have HB5 : Hid (Below W.heap.size W w5) := HBY.out.trans (hb5.mono HBY.out.size)
    have OP : Hid (Y.heap.size ≤ gP ∧ gP < w5.heap.size) := ⟨hgP, hgP2⟩
    have X2v0 : Hid (Ints w5 (some ⟨gP, 0, none⟩) gP vs2) := hlP
    clear hb5 hgP hgP2 hlP V1v3 X0v2 X1v0
    go_wp2_with fail
    refine (toInt64S_any w5 b3 vc3 vs3 hnt (HN3.out _ HB5.out)).mono ?_
    rintro e w6 ⟨gQ, rfl, hgQ, hgQ2, hlQ, hb6⟩
    have V1v5 : Hid (OVar B1 t aR gR n kR vs w6) := V1v4.out.below hb6
    have X0v4 : Hid (Txts w6 (some ⟨gB, 0, none⟩) gB xs0) := X0v3.out.below hb6
    have X1v2 : Hid (OVar BX t1 (some ⟨gX, 0, none⟩) gX vs1.length vs1.length vs1 w6) := X1v1.out.below hb6
    have X2v1 : Hid (Ints w6 (some ⟨gP, 0, none⟩) gP vs2) := X2v0.out.below hb6
    have HB6 : Hid (Below W.heap.size W w6) := HB5.out.trans (hb6.mono HB5.out.size)
    have OQ : Hid (w5.heap.size ≤ gQ ∧ gQ < w6.heap.size) := ⟨hgQ, hgQ2⟩
    have X3v0 : Hid (Ints w6 (some ⟨gQ, 0, none⟩) gQ vs3) := hlQ
    clear hb6 hgQ hgQ2 hlQ V1v4 X0v3 X1v1 X2v0
    have m0 := X1v2.out.c0
    have m1 := X1v2.out.c1
    go_wp2_with fail
    refine (HI.out w6 _ _ _ _ _ _ _ _ X0v4.out.strs X1v2.out.tx.nums X2v1.out.nums X3v0.out.nums).mono ?_
    rintro e w7 ⟨aG, gG, kG, rfl, hgG, hinG, hb7⟩
    have V1v6 : Hid (OVar B1 t aR gR n kR vs w7) := V1v5.out.below hb7
    have X0v5 : Hid (Txts w7 (some ⟨gB, 0, none⟩) gB xs0) := X0v4.out.below hb7
    have X1v3 : Hid (OVar BX t1 (some ⟨gX, 0, none⟩) gX vs1.length vs1.length vs1 w7) := X1v2.out.below hb7
    have X2v2 : Hid (Ints w7 (some ⟨gP, 0, none⟩) gP vs2) := X2v1.out.below hb7
    have X3v1 : Hid (Ints w7 (some ⟨gQ, 0, none⟩) gQ vs3) := X3v0.out.below hb7
    have HB7 : Hid (Below W.heap.size W w7) := HB6.out.trans (hb7.mono HB6.out.size)
    obtain ⟨Z, hZ⟩ : ∃ Z, Z = w7.alloc (.cells #[.int .i64 t, .slice aG n kG] 27) := ⟨_, rfl⟩
    have HZ2 : Hid (Z = w7.alloc (.cells #[.int .i64 t, .slice aG n kG] 27)) := hZ
    have hZB : Below w7.heap.size w7 Z := by rw [hZ]; exact (Below.refl _ _).alloc (Nat.le_refl _) _
    obtain ⟨B2, hB2⟩ : ∃ B2, B2 = w7.heap.size := ⟨_, rfl⟩
    have HE2 : Hid (B2 = w7.heap.size) := hB2
    have V2v0 : Hid (OVar B2 t aG gG n kG vs Z) := by rw [hZ, hB2]; exact OVar.start w7 t aG gG n kG vs _ HLN.out hinG
    have HO : Hid (B1 < gB ∧ (0 < vs.length → gR < gB) ∧ gB < gX ∧ gX < BX ∧ BX < gP ∧ gP < gQ ∧ gQ < gG ∧ gQ < B2 ∧ (0 < vs.length → gG < B2) ∧ W.heap.size ≤ gB) := by
      have o1 := OB.out; have o2 := OX.out; have o3 := OP.out; have o4 := OQ.out; have o5 := hb7.size
      exact ⟨o1.1, o1.2.1, by omega, o2.2.1, by omega, by omega, by omega, by omega, fun h => by rw [hB2]; exact hinG.lt h, o1.2.2.2⟩
    have p0 := V1v6.out.c0
    have p1 := V1v6.out.c1
    have hltV := V1v6.out.lt
    have V1v7 : Hid (OVar B1 t aR gR n kR vs Z) := V1v6.out.below hZB
    have X0v6 : Hid (Txts Z (some ⟨gB, 0, none⟩) gB xs0) := X0v5.out.below hZB
    have X1v4 : Hid (OVar BX t1 (some ⟨gX, 0, none⟩) gX vs1.length vs1.length vs1 Z) := X1v3.out.below hZB
    have X2v3 : Hid (Ints Z (some ⟨gP, 0, none⟩) gP vs2) := X2v2.out.below hZB
    have X3v2 : Hid (Ints Z (some ⟨gQ, 0, none⟩) gQ vs3) := X3v1.out.below hZB
    have HBZ : Hid (Below W.heap.size W Z) := HB7.out.trans (hZB.mono HB7.out.size)
    clear hb7 hZ hZB hB2 hgG hinG m0 m1 OB OX OP OQ V1v5 X0v4 X1v2 X2v1 X3v0 V1v6 X0v5 X1v3 X2v2 X3v1
    go_wp2_with fail
    rw [← HZ2.out, ← HE2.out]
    have hnvs : vs.length ≤ 1048576 := by have := HLN.out; omega
    refine (eqObj_same Z t aG aR gG gR n kG kR vs HLN.out hnvs V2v0.out.tx V1v7.out.tx).mono ?_
    rintro e w8 ⟨rfl, hb8⟩
    have V1v8 : Hid (OVar B1 t aR gR n kR vs w8) := V1v7.out.below hb8
    have X0v7 : Hid (Txts w8 (some ⟨gB, 0, none⟩) gB xs0) := X0v6.out.below hb8
    have X1v5 : Hid (OVar BX t1 (some ⟨gX, 0, none⟩) gX vs1.length vs1.length vs1 w8) := X1v4.out.below hb8
    have X2v4 : Hid (Ints w8 (some ⟨gP, 0, none⟩) gP vs2) := X2v3.out.below hb8
    have X3v3 : Hid (Ints w8 (some ⟨gQ, 0, none⟩) gQ vs3) := X3v2.out.below hb8
    have V2v1 : Hid (OVar B2 t aG gG n kG vs w8) := V2v0.out.below hb8
    have HB8 : Hid (Below W.heap.size W w8) := HBZ.out.trans (hb8.mono HBZ.out.size)
    clear hb8 p0 p1 hltV V1v7 X0v6 X1v4 X2v3 X3v2 V2v0
    go_wp2_with fail
    refine (toStringS_any w8 a0 c0 xs0 hn (HLW.out _ HB8.out)).mono ?_
    rintro e w9 ⟨gC, rfl, hgC, hgC2, hlC, hrC, hb9⟩
    have V1v9 : Hid (OVar B1 t aR gR n kR vs w9) := V1v8.out.below hb9
    have X0v8 : Hid (Txts w9 (some ⟨gB, 0, none⟩) gB xs0) := X0v7.out.below hb9
    have X1v6 : Hid (OVar BX t1 (some ⟨gX, 0, none⟩) gX vs1.length vs1.length vs1 w9) := X1v5.out.below hb9
    have X2v5 : Hid (Ints w9 (some ⟨gP, 0, none⟩) gP vs2) := X2v4.out.below hb9
    have X3v4 : Hid (Ints w9 (some ⟨gQ, 0, none⟩) gQ vs3) := X3v3.out.below hb9
    have V2v2 : Hid (OVar B2 t aG gG n kG vs w9) := V2v1.out.below hb9
    have HB9 : Hid (Below W.heap.size W w9) := HB8.out.trans (hb9.mono HB8.out.size)
    have HLC : Hid (Strs w9 (some ⟨gC, 0, none⟩) xs0) := hlC
    clear hb9 hgC hgC2 hlC hrC V1v8 X0v7 X1v5 X2v4 X3v3 V2v1
    go_wp2_with fail
    refine (eqStringS_same w9 _ _ _ _ xs0 hn X0v8.out.strs HLC.out).mono ?_
    rintro e w10 ⟨rfl, hb10⟩
    have V1v10 : Hid (OVar B1 t aR gR n kR vs w10) := V1v9.out.below hb10
    have X0v9 : Hid (Txts w10 (some ⟨gB, 0, none⟩) gB xs0) := X0v8.out.below hb10
    have X1v7 : Hid (OVar BX t1 (some ⟨gX, 0, none⟩) gX vs1.length vs1.length vs1 w10) := X1v6.out.below hb10
    have X2v6 : Hid (Ints w10 (some ⟨gP, 0, none⟩) gP vs2) := X2v5.out.below hb10
    have X3v5 : Hid (Ints w10 (some ⟨gQ, 0, none⟩) gQ vs3) := X3v4.out.below hb10
    have V2v3 : Hid (OVar B2 t aG gG n kG vs w10) := V2v2.out.below hb10
    have HB10 : Hid (Below W.heap.size W w10) := HB9.out.trans (hb10.mono HB9.out.size)
    clear hb10 HLC V1v9 X0v8 X1v6 X2v5 X3v4 V2v2
    obtain ⟨m0, m1⟩ := HK.out w10 HB10.out
    have p0 := X1v7.out.c0
    have p1 := X1v7.out.c1
    have hacc : Below w10.heap.size w10 w10.drew := (Below.refl _ _).drew
    have HXK : Hid (OVar BX t1 (some ⟨gX, 0, none⟩) gX vs1.length vs1.length vs1 w10) := X1v7.out
    have HCK : Hid (∀ w', Below w10.heap.size w10 w' → w'.cell? ⟨w.heap.size, 0, none⟩ = some (.int .i64 t1) ∧ w'.cell? ⟨w.heap.size, 1, none⟩ = some (.slice b1 vs1.length vc1) ∧ w'.cell? ⟨BX, 0, none⟩ = some (.int .i64 t1) ∧ w'.cell? ⟨BX, 1, none⟩ = some (.slice (some ⟨gX, 0, none⟩) vs1.length vs1.length)) := fun w' h =>
      ⟨(HK.out w' (HB10.out.trans (h.mono HB10.out.size))).1, (HK.out w' (HB10.out.trans (h.mono HB10.out.size))).2, (HXK.out.below h).c0, (HXK.out.below h).c1⟩
    go_wp2_with fail
    go_region_held3 (fun w' => w'.cell? ⟨w.heap.size, 0, none⟩ = some (.int .i64 t1) ∧ w'.cell? ⟨w.heap.size, 1, none⟩ = some (.slice b1 vs1.length vc1) ∧ w'.cell? ⟨BX, 0, none⟩ = some (.int .i64 t1) ∧ w'.cell? ⟨BX, 1, none⟩ = some (.slice (some ⟨gX, 0, none⟩) vs1.length vs1.length)) (first | exact HCK.out _ hacc)
      (first | (go_at_call 27; refine (toObj_any _ t1 b1 vc1 vs1 hnv (HNW.out _ (HB10.out.trans (hacc.mono HB10.out.size)))).mono ?_; rintro e w11 ⟨g9, rfl, hg9, hg92, hl9, hb9⟩; have hac2 : Below w10.heap.size w10 w11 := hacc.trans (hb9.mono hacc.size); clear hacc hg9 hg92 hb9; have hacc := hac2; clear hac2) | (go_at_call 29; refine (eqObj_same w11 t1 _ _ _ _ vs1.length _ _ vs1 rfl hnv (HXK.out.below hacc).tx hl9).mono ?_; rintro e w12 ⟨rfl, hbT⟩; have hac2 : Below w10.heap.size w10 w12 := hacc.trans (hbT.mono hacc.size); clear hacc hbT hl9; have hacc := hac2; clear hac2))
    all_goals
      have V1v11 : Hid (OVar B1 t aR gR n kR vs w12) := V1v10.out.below hacc
      have X0v10 : Hid (Txts w12 (some ⟨gB, 0, none⟩) gB xs0) := X0v9.out.below hacc
      have X1v8 : Hid (OVar BX t1 (some ⟨gX, 0, none⟩) gX vs1.length vs1.length vs1 w12) := X1v7.out.below hacc
      have X2v7 : Hid (Ints w12 (some ⟨gP, 0, none⟩) gP vs2) := X2v6.out.below hacc
      have X3v6 : Hid (Ints w12 (some ⟨gQ, 0, none⟩) gQ vs3) := X3v5.out.below hacc
      have V2v4 : Hid (OVar B2 t aG gG n kG vs w12) := V2v3.out.below hacc
      have HB12 : Hid (Below W.heap.size W w12) := HB10.out.trans (hacc.mono HB10.out.size)
      clear hacc m0 m1 p0 p1 HXK HCK V1v10 X0v9 X1v7 X2v6 X3v5 V2v3
      go_wp2_with fail
      refine (toInt64S_any w12 b2 vc2 vs2 hnf (HN2.out _ HB12.out)).mono ?_
      rintro e w13 ⟨gD, rfl, hgD, hgD2, hlD, hb13⟩
      have V1v12 : Hid (OVar B1 t aR gR n kR vs w13) := V1v11.out.below hb13
      have X0v11 : Hid (Txts w13 (some ⟨gB, 0, none⟩) gB xs0) := X0v10.out.below hb13
      have X1v9 : Hid (OVar BX t1 (some ⟨gX, 0, none⟩) gX vs1.length vs1.length vs1 w13) := X1v8.out.below hb13
      have X2v8 : Hid (Ints w13 (some ⟨gP, 0, none⟩) gP vs2) := X2v7.out.below hb13
      have X3v7 : Hid (Ints w13 (some ⟨gQ, 0, none⟩) gQ vs3) := X3v6.out.below hb13
      have V2v5 : Hid (OVar B2 t aG gG n kG vs w13) := V2v4.out.below hb13
      have HB13 : Hid (Below W.heap.size W w13) := HB12.out.trans (hb13.mono HB12.out.size)
      have HLD : Hid (Ints w13 (some ⟨gD, 0, none⟩) gD vs2) := hlD
      clear hb13 hgD hgD2 hlD V1v11 X0v10 X1v8 X2v7 X3v6 V2v4
      go_wp2_with fail
      refine (eqInt64S_same w13 _ _ _ _ _ _ vs2 hnf X2v8.out HLD.out).mono ?_
      rintro e w14 ⟨rfl, hb14⟩
      have V1v13 : Hid (OVar B1 t aR gR n kR vs w14) := V1v12.out.below hb14
      have X0v12 : Hid (Txts w14 (some ⟨gB, 0, none⟩) gB xs0) := X0v11.out.below hb14
      have X1v10 : Hid (OVar BX t1 (some ⟨gX, 0, none⟩) gX vs1.length vs1.length vs1 w14) := X1v9.out.below hb14
      have X2v9 : Hid (Ints w14 (some ⟨gP, 0, none⟩) gP vs2) := X2v8.out.below hb14
      have X3v8 : Hid (Ints w14 (some ⟨gQ, 0, none⟩) gQ vs3) := X3v7.out.below hb14
      have V2v6 : Hid (OVar B2 t aG gG n kG vs w14) := V2v5.out.below hb14
      have HB14 : Hid (Below W.heap.size W w14) := HB13.out.trans (hb14.mono HB13.out.size)
      clear hb14 HLD V1v12 X0v11 X1v9 X2v8 X3v7 V2v5
      go_wp2_with fail
      refine (toInt64S_any w14 b3 vc3 vs3 hnt (HN3.out _ HB14.out)).mono ?_
      rintro e w15 ⟨gE, rfl, hgE, hgE2, hlE, hb15⟩
      have V1v14 : Hid (OVar B1 t aR gR n kR vs w15) := V1v13.out.below hb15
      have X0v13 : Hid (Txts w15 (some ⟨gB, 0, none⟩) gB xs0) := X0v12.out.below hb15
      have X1v11 : Hid (OVar BX t1 (some ⟨gX, 0, none⟩) gX vs1.length vs1.length vs1 w15) := X1v10.out.below hb15
      have X2v10 : Hid (Ints w15 (some ⟨gP, 0, none⟩) gP vs2) := X2v9.out.below hb15
      have X3v9 : Hid (Ints w15 (some ⟨gQ, 0, none⟩) gQ vs3) := X3v8.out.below hb15
      have V2v7 : Hid (OVar B2 t aG gG n kG vs w15) := V2v6.out.below hb15
      have HB15 : Hid (Below W.heap.size W w15) := HB14.out.trans (hb15.mono HB14.out.size)
      have HLE : Hid (Ints w15 (some ⟨gE, 0, none⟩) gE vs3) := hlE
      clear hb15 hgE hgE2 hlE V1v13 X0v12 X1v10 X2v9 X3v8 V2v6
      go_wp2_with fail
      refine (eqInt64S_same w15 _ _ _ _ _ _ vs3 hnt X3v9.out HLE.out).mono ?_
      rintro e w16 ⟨rfl, hb16⟩
      have V1v15 : Hid (OVar B1 t aR gR n kR vs w16) := V1v14.out.below hb16
      have X0v14 : Hid (Txts w16 (some ⟨gB, 0, none⟩) gB xs0) := X0v13.out.below hb16
      have X1v12 : Hid (OVar BX t1 (some ⟨gX, 0, none⟩) gX vs1.length vs1.length vs1 w16) := X1v11.out.below hb16
      have X2v11 : Hid (Ints w16 (some ⟨gP, 0, none⟩) gP vs2) := X2v10.out.below hb16
      have X3v10 : Hid (Ints w16 (some ⟨gQ, 0, none⟩) gQ vs3) := X3v9.out.below hb16
      have V2v8 : Hid (OVar B2 t aG gG n kG vs w16) := V2v7.out.below hb16
      have HB16 : Hid (Below W.heap.size W w16) := HB15.out.trans (hb16.mono HB15.out.size)
      clear hb16 HLE V1v14 X0v13 X1v11 X2v10 X3v9 V2v7
      go_wp2_with fail
      refine (markStringS_any w16 _ gB xs0.length _ xs0 1 rfl X0v14.out hn (by omega) (by omega)).mono ?_
      rintro e w17 ⟨rfl, hg17, ht17⟩
      have V1v16 : Hid (OVar B1 t aR gR n kR vs w17) := V1v15.out.grown hg17 (by have ord := HO.out; omega) (fun h => by have ord := HO.out; first | omega | (have := ord.2.1 h; omega) | (have := ord.2.2.2.2.2.2.2.2.1 h; omega))
      have X1v13 : Hid (OVar BX t1 (some ⟨gX, 0, none⟩) gX vs1.length vs1.length vs1 w17) := X1v12.out.grown hg17 (by have ord := HO.out; omega) (fun h => by have ord := HO.out; first | omega | (have := ord.2.1 h; omega) | (have := ord.2.2.2.2.2.2.2.2.1 h; omega))
      have X2v12 : Hid (Ints w17 (some ⟨gP, 0, none⟩) gP vs2) := X2v11.out.grown hg17 (by have ord := HO.out; omega)
      have X3v11 : Hid (Ints w17 (some ⟨gQ, 0, none⟩) gQ vs3) := X3v10.out.grown hg17 (by have ord := HO.out; omega)
      have V2v9 : Hid (OVar B2 t aG gG n kG vs w17) := V2v8.out.grown hg17 (by have ord := HO.out; omega) (fun h => by have ord := HO.out; first | omega | (have := ord.2.1 h; omega) | (have := ord.2.2.2.2.2.2.2.2.1 h; omega))
      have HB17 : Hid (Below W.heap.size W w17) := HB16.out.trans (below_of_grown hg17 HB16.out.size (by have ord := HO.out; omega))
      clear hg17 ht17 X0v14 V1v15 X1v12 X2v11 X3v10 V2v8
      have m0 := X1v13.out.c0
      have m1 := X1v13.out.c1
      obtain ⟨k17, hk17⟩ : ∃ k : Nat, k = 1 + xs0.length := ⟨_, rfl⟩
      have hk17b : k17 ≤ 1048577 := by omega
      rw [← hk17]
      clear hk17
      go_wp2_with fail
      refine (markObj_any w17 t1 _ gX vs1.length _ vs1 k17 rfl X1v13.out.tx hnv (by omega)).mono ?_
      rintro e w18 ⟨rfl, hg18, ht18⟩
      have V1v17 : Hid (OVar B1 t aR gR n kR vs w18) := V1v16.out.grown hg18 (by have ord := HO.out; omega) (fun h => by have ord := HO.out; first | omega | (have := ord.2.1 h; omega) | (have := ord.2.2.2.2.2.2.2.2.1 h; omega))
      have X2v13 : Hid (Ints w18 (some ⟨gP, 0, none⟩) gP vs2) := X2v12.out.grown hg18 (by have ord := HO.out; omega)
      have X3v12 : Hid (Ints w18 (some ⟨gQ, 0, none⟩) gQ vs3) := X3v11.out.grown hg18 (by have ord := HO.out; omega)
      have V2v10 : Hid (OVar B2 t aG gG n kG vs w18) := V2v9.out.grown hg18 (by have ord := HO.out; omega) (fun h => by have ord := HO.out; first | omega | (have := ord.2.1 h; omega) | (have := ord.2.2.2.2.2.2.2.2.1 h; omega))
      have HB18 : Hid (Below W.heap.size W w18) := HB17.out.trans (below_of_grown hg18 HB17.out.size (by have ord := HO.out; omega))
      clear hg18 ht18 m0 m1 X1v13 V1v16 X2v12 X3v11 V2v9
      obtain ⟨k18, hk18⟩ : ∃ k : Nat, k = k17 + vs1.length := ⟨_, rfl⟩
      have hk18b : k18 ≤ 2097153 := by omega
      rw [← hk18]
      clear hk18
      go_wp2_with fail
      refine (markInt64S_any w18 _ gP vs2.length _ vs2 k18 rfl X2v13.out hnf (by omega)).mono ?_
      rintro e w19 ⟨rfl, hg19, ht19⟩
      have V1v18 : Hid (OVar B1 t aR gR n kR vs w19) := V1v17.out.grown hg19 (by have ord := HO.out; omega) (fun h => by have ord := HO.out; first | omega | (have := ord.2.1 h; omega) | (have := ord.2.2.2.2.2.2.2.2.1 h; omega))
      have X3v13 : Hid (Ints w19 (some ⟨gQ, 0, none⟩) gQ vs3) := X3v12.out.grown hg19 (by have ord := HO.out; omega)
      have V2v11 : Hid (OVar B2 t aG gG n kG vs w19) := V2v10.out.grown hg19 (by have ord := HO.out; omega) (fun h => by have ord := HO.out; first | omega | (have := ord.2.1 h; omega) | (have := ord.2.2.2.2.2.2.2.2.1 h; omega))
      have HB19 : Hid (Below W.heap.size W w19) := HB18.out.trans (below_of_grown hg19 HB18.out.size (by have ord := HO.out; omega))
      clear hg19 ht19 X2v13 V1v17 X3v12 V2v10
      obtain ⟨k19, hk19⟩ : ∃ k : Nat, k = k18 + vs2.length := ⟨_, rfl⟩
      have hk19b : k19 ≤ 3145729 := by omega
      rw [← hk19]
      clear hk19
      go_wp2_with fail
      refine (markInt64S_any w19 _ gQ vs3.length _ vs3 k19 rfl X3v13.out hnt (by omega)).mono ?_
      rintro e w20 ⟨rfl, hg20, ht20⟩
      have V1v19 : Hid (OVar B1 t aR gR n kR vs w20) := V1v18.out.grown hg20 (by have ord := HO.out; omega) (fun h => by have ord := HO.out; first | omega | (have := ord.2.1 h; omega) | (have := ord.2.2.2.2.2.2.2.2.1 h; omega))
      have V2v12 : Hid (OVar B2 t aG gG n kG vs w20) := V2v11.out.grown hg20 (by have ord := HO.out; omega) (fun h => by have ord := HO.out; first | omega | (have := ord.2.1 h; omega) | (have := ord.2.2.2.2.2.2.2.2.1 h; omega))
      have HB20 : Hid (Below W.heap.size W w20) := HB19.out.trans (below_of_grown hg20 HB19.out.size (by have ord := HO.out; omega))
      clear hg20 ht20 X3v13 V1v18 V2v11
      obtain ⟨k20, hk20⟩ : ∃ k : Int, k = ((k19 + vs3.length : Nat) : Int) := ⟨_, rfl⟩
      have hk20b : ¬ k20 < 0 := by omega
      rw [← hk20]
      clear hk20
      have p0 := V1v19.out.c0
      have p1 := V1v19.out.c1
      have q0 := V2v12.out.c0
      have q1 := V2v12.out.c1
      go_wp2_with fail
      refine (eqObj_same w20 t aG aR gG gR n kG kR vs HLN.out hnvs V2v12.out.tx V1v19.out.tx).mono ?_
      rintro e w21 ⟨rfl, hb21⟩
      have V1v20 : Hid (OVar B1 t aR gR n kR vs w21) := V1v19.out.below hb21
      have V2v13 : Hid (OVar B2 t aG gG n kG vs w21) := V2v12.out.below hb21
      have HB21 : Hid (Below W.heap.size W w21) := HB20.out.trans (hb21.mono HB20.out.size)
      clear hb21 p0 p1 q0 q1 V1v19 V2v12
      have q0 := V2v13.out.c0
      have q1 := V2v13.out.c1
      go_wp2_with fail
      obtain ⟨rr, htr, hBr, hne⟩ := V2v13.out.block W.heap.size (by have ord := HO.out; omega) HB21.out.size
      have hr1 : B1 ≠ rr := hne B1 V1v20.out.lt (fun _ => by have ord := HO.out; omega)
      have hr2 : B2 ≠ rr := hne B2 V2v13.out.lt (fun h => by have ord := HO.out; have := ord.2.2.2.2.2.2.2.2.1 h; omega)
      have hr3 : 0 < vs.length → gR ≠ rr := fun h => hne gR (V1v20.out.tx.lt h) (fun _ => by have ord := HO.out; have := ord.2.1 h; omega)
      refine (markObj_any w21 t aG rr n kG vs 1 HLN.out htr hvl (by omega)).mono ?_
      rintro e w22 ⟨rfl, hg22, ht22⟩
      have V2m : Hid (OVar B2 t aG rr n kG (marks 1 n) w22) := V2v13.out.marked hg22 hr2 (marks_len 1 n) ht22
      have V1v21 : Hid (OVar B1 t aR gR n kR vs w22) := V1v20.out.grown hg22 hr1 hr3
      have HB22 : Hid (Below W.heap.size W w22) := HB21.out.trans (below_of_grown hg22 HB21.out.size hBr)
      clear hg22 ht22 htr hBr hne hr1 hr2 hr3 q0 q1 V1v20 V2v13
      have V2v0 : Hid (OVar B2 t aG rr n kG (marks 1 n) w22) := V2m.out
      clear V2m
      obtain ⟨km, hkm⟩ : ∃ km : Int, km = ((1 + n : Nat) : Int) := ⟨_, rfl⟩
      rw [← hkm]
      have HKM : Hid (km = ((1 + n : Nat) : Int)) := hkm
      have hk0 : ¬ km < 0 := by omega
      have hkk : (km != km) = false := by simp
      clear hkm
      have q0 := V2v0.out.c0
      have q1 := V2v0.out.c1
      go_wp2_with fail
      refine (heldObj_any w22 t aG rr n kG 1 V2v0.out.tx hvl (by omega)).mono ?_
      rintro e w23 ⟨rfl, hb23⟩
      rw [← HKM.out]
      have V1v22 : Hid (OVar B1 t aR gR n kR vs w23) := V1v21.out.below hb23
      have V2v1 : Hid (OVar B2 t aG rr n kG (marks 1 n) w23) := V2v0.out.below hb23
      have HB23 : Hid (Below W.heap.size W w23) := HB22.out.trans (hb23.mono HB22.out.size)
      clear hb23 q0 q1 V1v21 V2v0
      have hacc : Below w23.heap.size w23 w23.drew := (Below.refl _ _).drew
      have HCUB : Hid (∀ w', Below w23.heap.size w23 w' → Below W.heap.size W w') := fun w' h => HB23.out.trans (h.mono HB23.out.size)
      obtain ⟨m0, m1⟩ := HK.out w23 HB23.out
      have tokF : True := trivial
      go_upto_region 43 with fail
      go_cut [19] (fun v wx => ∃ (B : Nat) (aH : Option Addr) (gH kH : Nat), v = .pointer (some ⟨B, 0, none⟩) ∧ OVar B t aH gH n kH vs wx ∧ Below w23.heap.size w23 wx)
      case first =>
        go_region_held3 (fun w' => w'.cell? ⟨w.heap.size, 0, none⟩ = some (.int .i64 t1) ∧ w'.cell? ⟨w.heap.size, 1, none⟩ = some (.slice b1 vs1.length vc1)) (first | exact HK.out _ (HCUB.out _ hacc) | exact HK.out _ (HCUB.out _ (hacc.alloc hacc.size _)) | exact HK.out _ (HCUB.out _ ((hacc.setCell (p := ⟨_, 0, none⟩) hUA _).setCell (p := ⟨_, 1, none⟩) hUA _)))
          (first | (go_at_call 26; have _p := hPR; refine (toStringS_any _ a0 c0 xs0 hn (HLW.out _ (HCUB.out _ hacc))).mono ?_; rintro e wS ⟨gS, rfl, hgX, hgY, hlS, hrX, hbX⟩; have hac2 : Below w23.heap.size w23 wS := hacc.trans (hbX.mono hacc.size); have hPR2 := hPR.later hbX; clear _p hPR; have hPR := hPR2; clear hPR2; clear hacc; have hacc := hac2; clear hac2 hbX hgX hgY hrX) | (go_at_call 26; refine (toStringS_any _ a0 c0 xs0 hn (HLW.out _ (HCUB.out _ (hacc.alloc hacc.size _)))).mono ?_; rintro e wS ⟨gS, rfl, hgX, hgY, hlS, hrX, hbX⟩; have hac2 : Below w23.heap.size w23 wS := (hacc.alloc hacc.size _).trans (hbX.mono (hacc.alloc hacc.size _).size); have hUA : w23.heap.size ≤ w23.heap.size := Nat.le_refl _; have hPR0 := (Pair.start w23.drew 27).later hbX; have hPR : Pair w23 wS := ⟨⟨hPR0.below.os, hPR0.below.tape, hPR0.below.output, hPR0.below.size, hPR0.below.block⟩, hPR0.lt, hPR0.cell, hPR0.free⟩; clear hPR0; clear hacc; have hacc := hac2; clear hac2 hbX hgX hgY hrX) | (go_at_call 26; refine (toStringS_any _ a0 c0 xs0 hn (HLW.out _ (HCUB.out _ hacc))).mono ?_; rintro e wS ⟨gS, rfl, hgX, hgY, hlS, hrX, hbX⟩; have hac2 : Below w23.heap.size w23 wS := hacc.trans (hbX.mono hacc.size); clear hacc; have hacc := hac2; clear hac2 hbX hgX hgY hrX) | (go_at_call 27; have _p := hPR; refine (toObj_any _ t1 b1 vc1 vs1 hnv (HNW.out _ (HCUB.out _ hacc))).mono ?_; rintro e wO ⟨gO, rfl, hgX, hgY, hlO, hbX⟩; have hac2 : Below w23.heap.size w23 wO := hacc.trans (hbX.mono hacc.size); have hPR2 := hPR.later hbX; clear _p hPR; have hPR := hPR2; clear hPR2; have hlS2 := hlS.below hbX; clear hlS; have hlS := hlS2; clear hlS2; clear hacc; have hacc := hac2; clear hac2 hbX hgX hgY) | (go_at_call 27; refine (toObj_any _ t1 b1 vc1 vs1 hnv (HNW.out _ (HCUB.out _ (hacc.alloc hacc.size _)))).mono ?_; rintro e wO ⟨gO, rfl, hgX, hgY, hlO, hbX⟩; have hac2 : Below w23.heap.size w23 wO := (hacc.alloc hacc.size _).trans (hbX.mono (hacc.alloc hacc.size _).size); have hUA := hacc.size; have hPR := (Pair.start _ 27).later hbX; have hlS2 := (hlS.below ((Below.refl _ _).alloc (Nat.le_refl _) _)).below hbX; clear hlS; have hlS := hlS2; clear hlS2; clear hacc; have hacc := hac2; clear hac2 hbX hgX hgY) | (go_at_call 27; refine (toObj_any _ t1 b1 vc1 vs1 hnv (HNW.out _ (HCUB.out _ hacc))).mono ?_; rintro e wO ⟨gO, rfl, hgX, hgY, hlO, hbX⟩; have hac2 : Below w23.heap.size w23 wO := hacc.trans (hbX.mono hacc.size); have hlS2 := hlS.below hbX; clear hlS; have hlS := hlS2; clear hlS2; clear hacc; have hacc := hac2; clear hac2 hbX hgX hgY) | (go_at_call 33; have _t := tokF; have _p := hPR; refine (toInt64S_any _ b2 vc2 vs2 hnf (HN2.out _ (HCUB.out _ hacc))).mono ?_; rintro e wF ⟨gF, rfl, hgX, hgY, hlF, hbX⟩; have hac2 : Below w23.heap.size w23 wF := hacc.trans (hbX.mono hacc.size); have hPR2 := hPR.later hbX; clear _p hPR; have hPR := hPR2; clear hPR2; have hlS2 := hlS.below hbX; clear hlS; have hlS := hlS2; clear hlS2; have hlO2 := hlO.below hbX; clear hlO; have hlO := hlO2; clear hlO2; clear hacc; have hacc := hac2; clear hac2 hbX hgX hgY tokF _t) | (go_at_call 33; have _t := tokF; refine (toInt64S_any _ b2 vc2 vs2 hnf (HN2.out _ (HCUB.out _ (hacc.alloc hacc.size _)))).mono ?_; rintro e wF ⟨gF, rfl, hgX, hgY, hlF, hbX⟩; have hac2 : Below w23.heap.size w23 wF := (hacc.alloc hacc.size _).trans (hbX.mono (hacc.alloc hacc.size _).size); have hUA := hacc.size; have hPR := (Pair.start _ 27).later hbX; have hlS2 := (hlS.below ((Below.refl _ _).alloc (Nat.le_refl _) _)).below hbX; clear hlS; have hlS := hlS2; clear hlS2; have hlO2 := (hlO.below ((Below.refl _ _).alloc (Nat.le_refl _) _)).below hbX; clear hlO; have hlO := hlO2; clear hlO2; clear hacc; have hacc := hac2; clear hac2 hbX hgX hgY tokF _t) | (go_at_call 33; have _t := tokF; refine (toInt64S_any _ b2 vc2 vs2 hnf (HN2.out _ (HCUB.out _ hacc))).mono ?_; rintro e wF ⟨gF, rfl, hgX, hgY, hlF, hbX⟩; have hac2 : Below w23.heap.size w23 wF := hacc.trans (hbX.mono hacc.size); have hlS2 := hlS.below hbX; clear hlS; have hlS := hlS2; clear hlS2; have hlO2 := hlO.below hbX; clear hlO; have hlO := hlO2; clear hlO2; clear hacc; have hacc := hac2; clear hac2 hbX hgX hgY tokF _t) | (go_at_call 33; have _p := hPR; refine (toInt64S_any _ b3 vc3 vs3 hnt (HN3.out _ (HCUB.out _ hacc))).mono ?_; rintro e wT ⟨gT, rfl, hgX, hgY, hlT, hbX⟩; have hac2 : Below w23.heap.size w23 wT := hacc.trans (hbX.mono hacc.size); have hPR2 := hPR.later hbX; clear _p hPR; have hPR := hPR2; clear hPR2; have hlS2 := hlS.below hbX; clear hlS; have hlS := hlS2; clear hlS2; have hlO2 := hlO.below hbX; clear hlO; have hlO := hlO2; clear hlO2; have hlF2 := hlF.below hbX; clear hlF; have hlF := hlF2; clear hlF2; clear hacc; have hacc := hac2; clear hac2 hbX hgX hgY) | (go_at_call 33; refine (toInt64S_any _ b3 vc3 vs3 hnt (HN3.out _ (HCUB.out _ (hacc.alloc hacc.size _)))).mono ?_; rintro e wT ⟨gT, rfl, hgX, hgY, hlT, hbX⟩; have hac2 : Below w23.heap.size w23 wT := (hacc.alloc hacc.size _).trans (hbX.mono (hacc.alloc hacc.size _).size); have hUA := hacc.size; have hPR := (Pair.start _ 27).later hbX; have hlS2 := (hlS.below ((Below.refl _ _).alloc (Nat.le_refl _) _)).below hbX; clear hlS; have hlS := hlS2; clear hlS2; have hlO2 := (hlO.below ((Below.refl _ _).alloc (Nat.le_refl _) _)).below hbX; clear hlO; have hlO := hlO2; clear hlO2; have hlF2 := (hlF.below ((Below.refl _ _).alloc (Nat.le_refl _) _)).below hbX; clear hlF; have hlF := hlF2; clear hlF2; clear hacc; have hacc := hac2; clear hac2 hbX hgX hgY) | (go_at_call 33; refine (toInt64S_any _ b3 vc3 vs3 hnt (HN3.out _ (HCUB.out _ hacc))).mono ?_; rintro e wT ⟨gT, rfl, hgX, hgY, hlT, hbX⟩; have hac2 : Below w23.heap.size w23 wT := hacc.trans (hbX.mono hacc.size); have hlS2 := hlS.below hbX; clear hlS; have hlS := hlS2; clear hlS2; have hlO2 := hlO.below hbX; clear hlO; have hlO := hlO2; clear hlO2; have hlF2 := hlF.below hbX; clear hlF; have hlF := hlF2; clear hlF2; clear hacc; have hacc := hac2; clear hac2 hbX hgX hgY) | (go_at_call 21; have _p := hPR; refine (HI.out _ _ _ _ _ _ _ _ _ hlS hlO.nums hlF.nums hlT.nums).mono ?_; rintro e wR ⟨aH, gH, kH, rfl, hgX, hinR, hbX⟩; have hac2 : Below w23.heap.size w23 wR := hacc.trans (hbX.mono hacc.size); have hgT := Nat.lt_of_lt_of_le hPR.lt hgX; have hPR2 := hPR.later hbX; clear _p hPR; have hPR := hPR2; clear hPR2; clear hacc; have hacc := hac2; clear hac2 hbX  hgX hlS hlO hlF hlT; have v0 := hPR.cell 0 _ rfl; have v1 := hPR.cell 1 _ rfl; have z0 := hPR.free 0; have z1 := hPR.free 1) | (go_at_call 21; refine (HI.out _ _ _ _ _ _ _ _ _ (hlS.below ((Below.refl _ _).alloc (Nat.le_refl _) _)) (hlO.below ((Below.refl _ _).alloc (Nat.le_refl _) _)).nums (hlF.below ((Below.refl _ _).alloc (Nat.le_refl _) _)).nums (hlT.below ((Below.refl _ _).alloc (Nat.le_refl _) _)).nums).mono ?_; rintro e wR ⟨aH, gH, kH, rfl, hgX, hinR, hbX⟩; have hac2 : Below w23.heap.size w23 wR := (hacc.alloc hacc.size _).trans (hbX.mono (hacc.alloc hacc.size _).size); have hgT := Nat.lt_of_lt_of_le (Pair.start _ 27).lt hgX; have hUA := hacc.size; have hPR := (Pair.start _ 27).later hbX; clear hacc; have hacc := hac2; clear hac2 hbX  hgX hlS hlO hlF hlT; have v0 := hPR.cell 0 _ rfl; have v1 := hPR.cell 1 _ rfl; have z0 := hPR.free 0; have z1 := hPR.free 1) | (go_at_call 21; refine (HI.out _ _ _ _ _ _ _ _ _ hlS hlO.nums hlF.nums hlT.nums).mono ?_; rintro e wR ⟨aH, gH, kH, rfl, hgX, hinR, hbX⟩; have hac2 : Below w23.heap.size w23 wR := hacc.trans (hbX.mono hacc.size); clear hacc; have hacc := hac2; clear hac2 hbX  hgX hlS hlO hlF hlT))
        all_goals
          go_wp2_with fail
          go_meet
          first
            | exact ⟨_, aH, gH, kH, rfl, ovar_put hPR hinR hgT HLN.out, (hacc.setCell (p := ⟨_, 0, none⟩) hUA _).setCell (p := ⟨_, 1, none⟩) hUA _⟩
            | exact ⟨_, aH, gH, kH, rfl, OVar.start wR t aH gH n kH vs _ HLN.out hinR, hacc.alloc hacc.size _⟩
      case rest =>
        obtain ⟨B3, aH, gH, kH, rfl, hV, hU⟩ := hcut
        have V3v0 : Hid (OVar B3 t aH gH n kH vs wc) := hV
        obtain ⟨X2, hXe⟩ : ∃ X, X = wc := ⟨_, rfl⟩
        rw [← hXe] at V3v0 hU ⊢
        clear hV m0 m1 hacc tokF hXe
        have HBN : Hid (Below W.heap.size W X2) := HCUB.out _ hU
        have V1v23 : Hid (OVar B1 t aR gR n kR vs X2) := V1v22.out.below hU
        have V2v2 : Hid (OVar B2 t aG rr n kG (marks 1 n) X2) := V2v1.out.below hU
        clear hU V1v22 V2v1
        have p0 := V1v23.out.c0
        have p1 := V1v23.out.c1
        have s0 := V3v0.out.c0
        have s1 := V3v0.out.c1
        go_wp2_with fail
        refine (eqObj_same X2 t aH aR gH gR n kH kR vs HLN.out hnvs V3v0.out.tx V1v23.out.tx).mono ?_
        rintro e w24 ⟨rfl, hb24⟩
        have V1v24 : Hid (OVar B1 t aR gR n kR vs w24) := V1v23.out.below hb24
        have V2v3 : Hid (OVar B2 t aG rr n kG (marks 1 n) w24) := V2v2.out.below hb24
        have HB24 : Hid (Below W.heap.size W w24) := HBN.out.trans (hb24.mono HBN.out.size)
        clear hb24 p0 p1 s0 s1 V3v0 V1v23 V2v2
        have q0 := V2v3.out.c0
        have q1 := V2v3.out.c1
        go_wp2_with fail
        refine (heldObj_any w24 t aG rr n kG 1 V2v3.out.tx hvl (by omega)).mono ?_
        rintro e w25 ⟨rfl, hb25⟩
        rw [← HKM.out]
        have HB25 : Hid (Below W.heap.size W w25) := HB24.out.trans (hb25.mono HB24.out.size)
        clear hb25 q0 q1
        go_wp2
        go_ret
        exact ⟨rfl, HEnd.out _ HB25.out⟩

set_option maxRecDepth 100000 in
theorem lifted (os : Os) (started : os.Started) (H : Type) (enc : TypeId × Value → H) :
    ReturnsInHanded {} Try.checked os 8 .any (Rows.fnExactForwardedSpec.pre6 enc Try.prog Try.f8 Rows.fnExactForwardedRow.domain false) (Rows.fnExactForwardedSpec.post enc Try.prog Try.f8 false true false false) := by
  refine returnsInHanded_of_change (C := Try.checked) own started (by kernel_rfl) Try.func8
    (ChangeSpec.witness6 (enc := enc) (C := Try.checked) false ⟨#[], #[.slice none 0 0, .agg #[.int .i64 0, .slice none 0 0], .slice none 0 0, .slice none 0 0], []⟩ 8 (by kernel_rfl) (by kernel_rfl) (by kernel_rfl) (by kernel_rfl)) ?_
  intro W base args ds gs before hval0 hW hcnd _
  have hval : ∀ (j : Nat) t v, Try.f8.params[j]? = some t → args[j]? = some v → Value.okWide Try.prog W .any base t v := hval0
  have hW' := hW
  obtain ⟨p, q, hA0, hV, rfl, hfz, hnd⟩ := hW
  have hA : DataW.TrodAll enc Try.prog W 0 (fun _ => true) true Try.f8.params.toList args.toList ds p := hA0
  rw [Try.params8] at hA hval
  obtain ⟨v0, vs_0, d0, ds0, p0, q0, hargs, rfl, rfl, h0, r0⟩ := trodAll_cons hA
  obtain ⟨v1, vs_1, d1, ds1, p1, q1, rfl, rfl, rfl, h1, r1⟩ := trodAll_cons r0
  obtain ⟨v2, vs_2, d2, ds2, p2, q2, rfl, rfl, rfl, h2, r2⟩ := trodAll_cons r1
  obtain ⟨v3, vs_3, d3, ds3, p3, q3, rfl, rfl, rfl, h3, r3⟩ := trodAll_cons r2
  obtain ⟨rfl, rfl, rfl⟩ := trodAll_nil r3
  obtain rfl : args = #[v0, v1, v2, v3] := by cases args; simp_all
  obtain ⟨rfl, rfl⟩ := trodVars_none hV
  have k_0 := h0
  have lt_0 : ∀ x ∈ p0, x.block < W.heap.size := by obtain ⟨m, hm⟩ := k_0; exact DataW.trod_lt m _ _ _ hm
  obtain ⟨a0, c0, xs0, rfl, hl0, hm0, hz0⟩ := strs_of (hval 0 24 v0 rfl rfl) h0
  have k_1 := h1
  have lt_1 : ∀ x ∈ p1, x.block < W.heap.size := by obtain ⟨m, hm⟩ := k_1; exact DataW.trod_lt m _ _ _ hm
  obtain ⟨t1, b1, vc1, vs1, rfl, ht1, hk1, hn1, hw1⟩ := obj_of (hval 1 42 v1 rfl rfl) h1
  have k_2 := h2
  have lt_2 : ∀ x ∈ p2, x.block < W.heap.size := by obtain ⟨m, hm⟩ := k_2; exact DataW.trod_lt m _ _ _ hm
  obtain ⟨b2, vc2, vs2, rfl, hn2, hk2, hw2⟩ := numsw_of (hval 2 25 v2 rfl rfl) h2
  have k_3 := h3
  have lt_3 : ∀ x ∈ p3, x.block < W.heap.size := by obtain ⟨m, hm⟩ := k_3; exact DataW.trod_lt m _ _ _ hm
  obtain ⟨b3, vc3, vs3, rfl, hn3, hk3, hw3⟩ := numsw_of (hval 3 25 v3 rfl rfl) h3
  clear hA0 hval0
  refine (walk a0 c0 xs0 t1 b1 vc1 vs1 b2 vc2 vs2 b3 vc3 vs3 W hl0 hm0 hz0 ht1 hk1 hn1 hw1 hk2 hn2 hw2 hk3 hn3 hw3).mono fun e W' ⟨he, bel⟩ => ?_
  subst he
  exact ⟨_, rfl, _, _, _, [], _, [], hW', trodAll_mk1 (shut_bool Try.underlying4 _), (trodAll_cons_mk (Below.trod laidOut (by kernel_rfl) (of_decide_eq_true (by kernel_rfl)) k_0 bel lt_0) (trodAll_cons_mk (Below.trod laidOut (by kernel_rfl) (of_decide_eq_true (by kernel_rfl)) k_1 bel lt_1) (trodAll_cons_mk (Below.trod laidOut (by kernel_rfl) (of_decide_eq_true (by kernel_rfl)) k_2 bel lt_2) (trodAll_cons_mk (Below.trod laidOut (by kernel_rfl) (of_decide_eq_true (by kernel_rfl)) k_3 bel lt_3) trodAll_mk0)))), rfl, bel.frame _, fun h => by cases h⟩

theorem over : Rows.fnExactForwardedRow.holds Try.pinned (OpenSpec.ofChange Rows.fnExactForwardedSpec) :=
  OpenClaim.holds_of_wide 8 Try.f8 rfl rfl rfl rfl rfl rfl rfl ⟨rfl, rfl, rfl, rfl, rfl⟩ rfl rfl rfl rfl rfl (by kernel_rfl) Try.func8 (by kernel_rfl)
    (of_decide_eq_true (by kernel_rfl)) (by unfold Func.isWrapper; first | (rw [if_pos (by decide +kernel)]; kernel_rfl) | (rw [if_neg (by decide +kernel)]; exact ⟨rfl, rfl⟩))
    (fun os started H enc _ => lifted os started H enc)

theorem proved : Rows.FnExactForwardedSaid := over
#print axioms proved
end Go.Proofs.Ytodbdpgjoofdfaa.fnExactForwarded
