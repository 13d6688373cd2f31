/-
  FnExactCrash: for every device and every slice of picks the law that holds the program's Crash against the specification's Crash returns true, and both read as before; no condition.
-/
import Derived.Test.YteafgnggmpjdmaeDevOpen
import Derived.Test.YteafgnggmpjdmaeCrash4
import Derived.Deep.RegionWith
import Derived.ProofKit
import Derived.OpenShut
import Derived.ShutString
import Derived.ChangeOld
import Derived.Below
namespace Go.Proofs.Yteafgnggmpjdmae.fnExactCrash
open Go.ChangeShapes Go.WideShapes Go.ChangeAt Go.RowKit
open dev

theorem own : ownKnob Try.prog.godebug = none := by kernel_rfl
theorem laidOut : laidOutB Try.prog = true := by kernel_rfl


set_option linter.unusedVariables false in
set_option maxHeartbeats 4000000 in
theorem walk (safe : ByteArray) (a : Option Addr) (cap : Nat) (ls : List Ln) (kb : Option Addr) (kc : Nat) (ks : List Int) (w : World) (hs : safe.size ≤ maxLen) (hl : Lines w a ls) (hm : ls.length ≤ maxLen) (hz : ∀ i (hi : i < ls.length), ls[i].data.size ≤ maxLen ∧ ls[i].sent.size ≤ maxLen) (hk : Nums w kb ks) (hkm : ks.length ≤ maxLen) :
    Calls Try.prog 4 #[.agg #[.string safe, .slice a ls.length cap], .slice kb ks.length kc] w fun e w' => e = .returned (.bool true) ∧ Below w.heap.size w w' := by
  have HL : Hid (Lines w a ls) := hl
  obtain ⟨W, hW⟩ : ∃ W, W = w.alloc (.cells #[.string safe, .slice a ls.length cap] 24) := ⟨_, rfl⟩
  have HB0 : Hid (Below w.heap.size w W) := by rw [hW]; exact (Below.refl _ _).alloc (Nat.le_refl _) _
  have hsz : w.heap.size < W.heap.size := by rw [hW]; simp
  have k0 : W.cell? ⟨w.heap.size, 0, none⟩ = some (.string safe) := by rw [hW, World.cell?_alloc_new]; rfl
  have k1 : W.cell? ⟨w.heap.size, 1, none⟩ = some (.slice a ls.length cap) := by rw [hW, World.cell?_alloc_new]; rfl
  have HK : Hid (∀ w', Below W.heap.size W w' → w'.cell? ⟨w.heap.size, 0, none⟩ = some (.string safe) ∧ w'.cell? ⟨w.heap.size, 1, none⟩ = some (.slice a ls.length cap)) := fun w' h =>
    ⟨by rw [h.cell (p := ⟨w.heap.size, 0, none⟩) hsz]; exact k0, by rw [h.cell (p := ⟨w.heap.size, 1, none⟩) hsz]; exact k1⟩
  have HW : Hid (W = w.alloc (.cells #[.string safe, .slice a ls.length cap] 24)) := hW
  have HSZ : Hid (∀ w, Lines w a ls → _) := fun w h => szDevice_any w safe a cap ls hs hm h hz
  have HLW : Hid (∀ w', Below W.heap.size W w' → Lines w' a ls) := fun w' h => (HL.out.below HB0.out).below h
  have HEnd : Hid (∀ w', Below W.heap.size W w' → Below w.heap.size w w') := fun w' h => HB0.out.trans (h.mono HB0.out.size)
  have HN : Hid (∀ w', Below W.heap.size W w' → Nums w' kb ks) := fun w' h => (hk.below HB0.out).below h
  unfold maxLen at hkm
  clear k0 k1 hW hl hz hk
  by_cases hbig : (1048576 : Int) < (ks.length : Int)
  · go_enter Try.func4, Try.ntmps4
    go_wp2_with (rw [← HW.out])
    go_ret
    exact ⟨rfl, by first | exact HB0.out | (rw [← HW.out]; exact HB0.out)⟩
  have hkn : ks.length ≤ 1048576 := by omega
  go_enter Try.func4, Try.ntmps4
  go_wp2_with fail
  rw [← HW.out]
  refine (HSZ.out W (HLW.out W (Below.refl _ _))).mono ?_
  rintro e w1 ⟨r, rfl, hr0, hr1, hb1⟩
  have HB1 : Hid (Below W.heap.size W w1) := hb1
  have HR1 : Hid (0 ≤ r → safe.size ≤ 1048576 ∧ ls.length ≤ 1048576 ∧ ∀ i (hi : i < ls.length), ls[i].data.size ≤ 1048576 ∧ ls[i].sent.size ≤ 1048576) := hr1
  clear hb1 hr1
  by_cases hneg : r < 0
  · go_wp2
    go_ret
    exact ⟨rfl, HEnd.out _ HB1.out⟩
  obtain ⟨hs2, hn2, hz2⟩ := HR1.out (by omega)
  obtain ⟨st, hsp, him⟩ := crash_both safe ls ks hs2 hn2 hkn hz2
  have HS : Hid (∀ (w : World) (a : Option Addr) (cap : Nat) (kb : Option Addr) (kc : Nat), Lines w a ls → Nums w kb ks → _) := hsp
  have HI : Hid (∀ (w : World) (a : Option Addr) (cap : Nat) (kb : Option Addr) (kc : Nat), Lines w a ls → Nums w kb ks → _) := him
  clear hz2 hsp him
  obtain ⟨m0, m1⟩ := HK.out w1 HB1.out
  go_wp2_with fail
  refine (toDevice_any w1 safe a cap ls hn2 (HLW.out w1 HB1.out)).mono ?_
  rintro e w2 ⟨g, rfl, hg, hl2, hr2, hb2⟩
  have HL2 : Hid (Lines w2 (some ⟨g, 0, none⟩) ls) := hl2
  have HB2 : Hid (Below W.heap.size W w2) := HB1.out.trans (hb2.mono HB1.out.size)
  clear hl2 hr2 hb2 m0 m1
  go_wp2_with fail
  refine (toInt64S_any w2 kb kc ks hkn (HN.out w2 HB2.out)).mono ?_
  rintro e w2b ⟨gk, rfl, hgk, hgk2, hik, hb2b⟩
  have HL2b : Hid (Lines w2b (some ⟨g, 0, none⟩) ls) := HL2.out.below hb2b
  have HN2b : Hid (Nums w2b (some ⟨gk, 0, none⟩) ks) := hik.nums
  have HB2b : Hid (Below W.heap.size W w2b) := HB2.out.trans (hb2b.mono HB2.out.size)
  clear hik hb2b hgk hgk2
  go_wp2_with fail
  refine (HS.out w2b _ ls.length _ ks.length HL2b.out HN2b.out).mono ?_
  rintro e w3 ⟨rfl, hb3⟩
  have HB3 : Hid (Below W.heap.size W w3) := HB2b.out.trans (hb3.mono HB2b.out.size)
  obtain ⟨X6, hX6⟩ : ∃ X, X = w3.alloc (.cells #[.string st, .slice none 0 0] 30) := ⟨_, rfl⟩
  have hB6 : Below w3.heap.size w3 X6 := by rw [hX6]; exact (Below.refl _ _).alloc (Nat.le_refl _) _
  have hs6 : w3.heap.size < X6.heap.size := by rw [hX6]; simp
  have HBX6 : Hid (Below W.heap.size W X6) := HB3.out.trans (hB6.mono HB3.out.size)
  have HK6 : Hid (∀ w', Below X6.heap.size X6 w' → w'.cell? ⟨w3.heap.size, 0, none⟩ = some (.string st) ∧ w'.cell? ⟨w3.heap.size, 1, none⟩ = some (.slice none 0 0)) := fun w' h =>
    ⟨by rw [h.cell (p := ⟨w3.heap.size, 0, none⟩) hs6, hX6, World.cell?_alloc_new]; rfl, by rw [h.cell (p := ⟨w3.heap.size, 1, none⟩) hs6, hX6, World.cell?_alloc_new]; rfl⟩
  have HX6 : Hid (X6 = w3.alloc (.cells #[.string st, .slice none 0 0] 30)) := hX6
  have HW3 : Hid (W.heap.size ≤ w3.heap.size) := HB3.out.size
  clear hb3 hX6 hB6
  obtain ⟨m0, m1⟩ := HK.out X6 HBX6.out
  go_wp2_with (rw [← HX6.out])
  refine (toDevice_any X6 safe a cap ls hn2 (HLW.out X6 HBX6.out)).mono ?_
  rintro e w4 ⟨g2, rfl, hg2, hl4, hr4, hb4⟩
  have HB4 : Hid (Below X6.heap.size X6 w4) := hb4
  obtain ⟨X, hX⟩ : ∃ X, X = w4.alloc (.cells #[.string safe, .slice (some ⟨g2, 0, none⟩) ls.length ls.length] 30) := ⟨_, rfl⟩
  have hX4 : Below w4.heap.size w4 X := by rw [hX]; exact (Below.refl _ _).alloc (Nat.le_refl _) _
  have HLX : Hid (∀ w', Below X.heap.size X w' → Lines w' (some ⟨g2, 0, none⟩) ls) := fun w' h => (hl4.below hX4).below h
  have HRX : Hid (∀ w', Below X.heap.size X w' → Row w' g2 (ls.length * 3)) := fun w' h => (hr4.grown hX4).grown h
  have HBX : Hid (Below X6.heap.size X6 X) := HB4.out.trans (hX4.mono HB4.out.size)
  have HWX : Hid (∀ w', Below X.heap.size X w' → Below W.heap.size W w') := fun w' h => (HBX6.out.trans (HBX.out.mono HBX6.out.size)).trans (h.mono (Nat.le_trans HBX6.out.size HBX.out.size))
  have H6X : Hid (∀ w', Below X.heap.size X w' → Below X6.heap.size X6 w') := fun w' h => HBX.out.trans (h.mono HBX.out.size)
  have hszX : w4.heap.size < X.heap.size := by rw [hX]; simp
  obtain ⟨r, hr3, hrX, hrg⟩ : ∃ r, X6.heap.size ≤ r ∧ r < X.heap.size ∧ (0 < ls.length → r = g2) := by
    by_cases h : 0 < ls.length
    · obtain ⟨⟨v, hv⟩, _⟩ := HRX.out X (Below.refl _ _) 0 (by omega)
      exact ⟨g2, hg2, World.block_lt_of_cell? X _ hv, fun _ => rfl⟩
    · exact ⟨w4.heap.size, hb4.size, hszX, fun q => absurd q h⟩
  have HRG : Hid (0 < ls.length → r = g2) := hrg
  have HKX : Hid (∀ w', Below X.heap.size X w' → w'.cell? ⟨w4.heap.size, 0, none⟩ = some (.string safe) ∧ w'.cell? ⟨w4.heap.size, 1, none⟩ = some (.slice (some ⟨g2, 0, none⟩) ls.length ls.length)) := fun w' h =>
    ⟨by rw [h.cell (p := ⟨w4.heap.size, 0, none⟩) hszX, hX, World.cell?_alloc_new]; rfl, by rw [h.cell (p := ⟨w4.heap.size, 1, none⟩) hszX, hX, World.cell?_alloc_new]; rfl⟩
  have HX : Hid (X = w4.alloc (.cells #[.string safe, .slice (some ⟨g2, 0, none⟩) ls.length ls.length] 30)) := hX
  clear hX hX4 hl4 hr4 hb4 m0 m1 hrg hg2
  go_wp2_with (rw [← HX.out])
  refine (toInt64S_any X kb kc ks hkn (HN.out X (HWX.out X (Below.refl _ _)))).mono ?_
  rintro e w5 ⟨g8, rfl, hg8, hg8b, hi8, hb5⟩
  have HX5 : Hid (Below X.heap.size X w5) := hb5
  have HI5 : Hid (Ints w5 (some ⟨g8, 0, none⟩) g8 ks) := hi8
  clear hb5 hi8
  obtain ⟨n0, n1⟩ := HKX.out w5 HX5.out
  go_wp2_with fail
  refine (HI.out w5 _ ls.length _ ks.length (HLX.out w5 HX5.out) HI5.out.nums).mono ?_
  rintro e w6 ⟨rfl, hb6⟩
  obtain ⟨X9, hX9⟩ : ∃ X, X = w6.alloc (.cells #[.string st, .slice none 0 0] 30) := ⟨_, rfl⟩
  have hB9 : Below w6.heap.size w6 X9 := by rw [hX9]; exact (Below.refl _ _).alloc (Nat.le_refl _) _
  have hs9 : w6.heap.size < X9.heap.size := by rw [hX9]; simp
  have h56 : Below w5.heap.size w5 X9 := hb6.trans (hB9.mono hb6.size)
  have hw56 : w5.heap.size ≤ w6.heap.size := hb6.size
  have HX9X : Hid (Below X.heap.size X X9) := HX5.out.trans (h56.mono HX5.out.size)
  have HI9 : Hid (Ints X9 (some ⟨g8, 0, none⟩) g8 ks) := HI5.out.below h56
  have HK9 : Hid (∀ w', Below X9.heap.size X9 w' → w'.cell? ⟨w6.heap.size, 0, none⟩ = some (.string st) ∧ w'.cell? ⟨w6.heap.size, 1, none⟩ = some (.slice none 0 0)) := fun w' h =>
    ⟨by rw [h.cell (p := ⟨w6.heap.size, 0, none⟩) hs9, hX9, World.cell?_alloc_new]; rfl, by rw [h.cell (p := ⟨w6.heap.size, 1, none⟩) hs9, hX9, World.cell?_alloc_new]; rfl⟩
  have HX9 : Hid (X9 = w6.alloc (.cells #[.string st, .slice none 0 0] 30)) := hX9
  have HT9 : Hid (Two W X9 w3.heap.size w6.heap.size st) := ⟨HWX.out X9 HX9X.out, (HK6.out X9 (H6X.out X9 HX9X.out)).1, (HK6.out X9 (H6X.out X9 HX9X.out)).2, (HK9.out X9 (Below.refl _ _)).1, (HK9.out X9 (Below.refl _ _)).2⟩
  clear hb6 hX9 hB9 h56 n0 n1
  obtain ⟨_, t0, t1, t2, t3⟩ := HT9.out
  go_wp2_with (rw [← HX9.out])
  refine (eqDevice_same X9 st none none 0 0 [] (by simp) (fun i hi => absurd hi (by simp)) (fun i hi => absurd hi (by simp))).mono ?_
  rintro e w7 ⟨rfl, hb7⟩
  have HX7 : Hid (Below X.heap.size X w7) := HX9X.out.trans (hb7.mono HX9X.out.size)
  have HI7 : Hid (Ints w7 (some ⟨g8, 0, none⟩) g8 ks) := HI9.out.below hb7
  have HT7 : Hid (Two W w7 w3.heap.size w6.heap.size st) := HT9.out.below hb7
  have HB7 : Hid (Below W.heap.size W w7) := HT7.out.1
  clear hb7 t0 t1 t2 t3
  obtain ⟨m0, m1⟩ := HK.out w7 HB7.out
  obtain ⟨n0, n1⟩ := HKX.out w7 HX7.out
  have HLa : Hid (Lines w7.drew a ls) := HLW.out w7 HB7.out
  have HLb : Hid (Lines w7.drew (some ⟨g2, 0, none⟩) ls) := HLX.out w7 HX7.out
  have HD : Hid (∀ w', Below w7.drew.heap.size w7.drew w' → Below w7.heap.size w7 w') := fun w' h => ⟨h.os, h.tape, h.output, h.size, h.block⟩
  have HKK : Hid (∀ w', Below w7.drew.heap.size w7.drew w' → w'.cell? ⟨w4.heap.size, 0, none⟩ = some (.string safe) ∧ w'.cell? ⟨w4.heap.size, 1, none⟩ = some (.slice (some ⟨g2, 0, none⟩) ls.length ls.length)) := fun w' h =>
    HKX.out w' (HX7.out.trans ((HD.out w' h).mono HX7.out.size))
  go_wp2
  go_region_with (first | (go_at_call 7; refine (toDevice_any w7.drew safe a cap ls hn2 HLa.out).mono ?_; rintro e w8 ⟨g3, rfl, hg3, hl8, hr8, hb8⟩; obtain ⟨o0, o1⟩ := HKK.out w8 hb8) | (go_at_call 10; refine (eqDevice_same w8 safe (some ⟨g2, 0, none⟩) (some ⟨g3, 0, none⟩) ls.length ls.length ls hn2 (HLb.out.below hb8) hl8).mono ?_; rintro e w9 ⟨rfl, hb9⟩))
  all_goals
    have h79 : Below w7.heap.size w7 w9 := (HD.out w8 hb8).trans (hb9.mono (HD.out w8 hb8).size)
    have HXa : Hid (Below X.heap.size X w9) := HX7.out.trans (h79.mono HX7.out.size)
    have HIa : Hid (Ints w9 (some ⟨g8, 0, none⟩) g8 ks) := HI7.out.below h79
    have HTa : Hid (Two W w9 w3.heap.size w6.heap.size st) := HT7.out.below h79
    clear hl8 hr8 hb8 hb9 o0 o1 h79 m0 m1 n0 n1
    go_wp2_with fail
    refine (toInt64S_any w9 kb kc ks hkn (HN.out w9 HTa.out.1)).mono ?_
    rintro e w10 ⟨gm, rfl, hgm, hgm2, him, hb10⟩
    have HXb : Hid (Below X.heap.size X w10) := HXa.out.trans (hb10.mono HXa.out.size)
    have HIb : Hid (Ints w10 (some ⟨g8, 0, none⟩) g8 ks) := HIa.out.below hb10
    have HTb : Hid (Two W w10 w3.heap.size w6.heap.size st) := HTa.out.below hb10
    have HM : Hid (Ints w10 (some ⟨gm, 0, none⟩) gm ks) := him
    clear hb10 him hgm hgm2
    go_wp2_with fail
    refine (eqInt64S_same w10 (some ⟨g8, 0, none⟩) (some ⟨gm, 0, none⟩) g8 gm ks.length ks.length ks hkn HIb.out HM.out).mono ?_
    rintro e w11 ⟨rfl, hb11⟩
    have HXc : Hid (Below X.heap.size X w11) := HXb.out.trans (hb11.mono HXb.out.size)
    have HIc : Hid (Ints w11 (some ⟨g8, 0, none⟩) g8 ks) := HIb.out.below hb11
    have HTc : Hid (Two W w11 w3.heap.size w6.heap.size st) := HTb.out.below hb11
    clear hb11
    obtain ⟨n0, n1⟩ := HKX.out w11 HXc.out
    have HRr : Hid (Row w11 r (ls.length * 3)) := by
      by_cases h : 0 < ls.length
      · rw [HRG.out h]; exact HRX.out w11 HXc.out
      · exact fun j hj => by omega
    have hX5s : X.heap.size ≤ w5.heap.size := HX5.out.size
    have hW3 := HW3.out
    have hXX : X6.heap.size ≤ X.heap.size := HBX.out.size
    go_wp2_with fail
    refine (markDevice_any w11 safe (some ⟨g2, 0, none⟩) r ls.length ls.length 1 (fun h => by rw [HRG.out h]) HRr.out hn2 (by omega) (by omega)).mono ?_
    rintro e w12 ⟨rfl, hg12⟩
    have HTd : Hid (Two W w12 w3.heap.size w6.heap.size st) := HTc.out.grown hg12 (by omega) (by omega) (by omega)
    have HId : Hid (Ints w12 (some ⟨g8, 0, none⟩) g8 ks) := HIc.out.grown hg12 (by omega)
    clear hg12 n0 n1
    go_wp2_with fail
    refine (markInt64S_any w12 (some ⟨g8, 0, none⟩) g8 ks.length ks.length ks (1 + ls.length * 3) rfl HId.out hkn (by omega)).mono ?_
    rintro e w13 ⟨rfl, hg13, _⟩
    have HTe : Hid (Two W w13 w3.heap.size w6.heap.size st) := HTd.out.grown hg13 (by omega) (by omega) (by omega)
    clear hg13
    have hq1 : ¬ ((1 + ls.length * 3 + ks.length : Nat) : Int) < 0 := by omega
    obtain ⟨_, t0, t1, t2, t3⟩ := HTe.out
    go_wp2_with fail
    refine (eqDevice_same w13 st none none 0 0 [] (by simp) (fun i hi => absurd hi (by simp)) (fun i hi => absurd hi (by simp))).mono ?_
    rintro e w14 ⟨rfl, hb14⟩
    have HTf : Hid (Two W w14 w3.heap.size w6.heap.size st) := HTe.out.below hb14
    clear hb14 t0 t1 t2 t3
    obtain ⟨_, t0, t1, t2, t3⟩ := HTf.out
    go_wp2_with fail
    refine (markDevice_nil w14 st 1 (by omega) (by omega)).mono ?_
    rintro e w15 ⟨rfl, hb15⟩
    have HTg : Hid (Two W w15 w3.heap.size w6.heap.size st) := HTf.out.below hb15
    clear hb15 t0 t1 t2 t3
    obtain ⟨_, t0, t1, t2, t3⟩ := HTg.out
    go_wp2_with fail
    refine (heldDevice_nil w15 st 1 (by omega)).mono ?_
    rintro e w16 ⟨rfl, hb16⟩
    have HTh : Hid (Two W w16 w3.heap.size w6.heap.size st) := HTg.out.below hb16
    clear hb16 t0 t1 t2 t3
    obtain ⟨m0, m1⟩ := HK.out w16 HTh.out.1
    go_wp2_with fail
    refine (toDevice_any w16 safe a cap ls hn2 (HLW.out w16 HTh.out.1)).mono ?_
    rintro e w17 ⟨g4, rfl, hg4, hl17, hr17, hb17⟩
    have HL17 : Hid (Lines w17 (some ⟨g4, 0, none⟩) ls) := hl17
    have HTi : Hid (Two W w17 w3.heap.size w6.heap.size st) := HTh.out.below hb17
    clear hl17 hr17 hb17 m0 m1
    go_wp2_with fail
    refine (toInt64S_any w17 kb kc ks hkn (HN.out w17 HTi.out.1)).mono ?_
    rintro e w18 ⟨gn, rfl, hgn, hgn2, hin, hb18⟩
    have HL18 : Hid (Lines w18 (some ⟨g4, 0, none⟩) ls) := HL17.out.below hb18
    have HTj : Hid (Two W w18 w3.heap.size w6.heap.size st) := HTi.out.below hb18
    have HNn : Hid (Nums w18 (some ⟨gn, 0, none⟩) ks) := hin.nums
    clear hb18 hin hgn hgn2
    go_wp2_with fail
    refine (HI.out w18 _ ls.length _ ks.length HL18.out HNn.out).mono ?_
    rintro e w19 ⟨rfl, hb19⟩
    obtain ⟨Y, hY⟩ : ∃ X, X = w19.alloc (.cells #[.string st, .slice none 0 0] 30) := ⟨_, rfl⟩
    have hBY : Below w19.heap.size w19 Y := by rw [hY]; exact (Below.refl _ _).alloc (Nat.le_refl _) _
    have HTk : Hid (Two W Y w3.heap.size w6.heap.size st) := (HTj.out.below hb19).below hBY
    have u0 : Y.cell? ⟨w19.heap.size, 0, none⟩ = some (.string st) := by rw [hY, World.cell?_alloc_new]; rfl
    have u1 : Y.cell? ⟨w19.heap.size, 1, none⟩ = some (.slice none 0 0) := by rw [hY, World.cell?_alloc_new]; rfl
    have HY : Hid (Y = w19.alloc (.cells #[.string st, .slice none 0 0] 30)) := hY
    clear hb19 hY hBY
    obtain ⟨_, t0, t1, t2, t3⟩ := HTk.out
    go_wp2_with (rw [← HY.out])
    refine (eqDevice_same Y st none none 0 0 [] (by simp) (fun i hi => absurd hi (by simp)) (fun i hi => absurd hi (by simp))).mono ?_
    rintro e w20 ⟨rfl, hb20⟩
    have HTl : Hid (Two W w20 w3.heap.size w6.heap.size st) := HTk.out.below hb20
    clear hb20 t0 t1 t2 t3 u0 u1
    obtain ⟨_, t0, t1, t2, t3⟩ := HTl.out
    go_wp2_with fail
    refine (heldDevice_nil w20 st 1 (by omega)).mono ?_
    rintro e w21 ⟨rfl, hb21⟩
    have HTm : Hid (Two W w21 w3.heap.size w6.heap.size st) := HTl.out.below hb21
    clear hb21 t0 t1 t2 t3
    go_wp2
    go_ret
    exact ⟨rfl, HEnd.out _ HTm.out.1⟩

set_option maxRecDepth 100000 in
theorem lifted (os : Os) (started : os.Started) (H : Type) (enc : TypeId × Value → H) :
    ReturnsInHanded {} Try.checked os 4 .any (Rows.fnExactCrashSpec.pre6 enc Try.prog Try.f4 Rows.fnExactCrashRow.domain false) (Rows.fnExactCrashSpec.post enc Try.prog Try.f4 false true false false) := by
  refine returnsInHanded_of_change (C := Try.checked) own started (by kernel_rfl) Try.func4
    (ChangeSpec.witness6 (enc := enc) (C := Try.checked) false ⟨#[], #[.agg #[.string ByteArray.empty, .slice none 0 0], .slice none 0 0], []⟩ 8 (by kernel_rfl) (by kernel_rfl) (by kernel_rfl) (by kernel_rfl)) ?_
  intro W base args ds gs before hval0 hW hcnd _
  have hval : ∀ (j : Nat) t v, Try.f4.params[j]? = some t → args[j]? = some v → Value.okWide Try.prog W .any base t v := hval0
  have hW' := hW
  obtain ⟨p, q, hA0, hV, rfl, hfz, hnd⟩ := hW
  have hA : DataW.TrodAll enc Try.prog W 0 (fun _ => true) true Try.f4.params.toList args.toList ds p := hA0
  rw [Try.params4] at hA hval
  obtain ⟨v0, vs0, d0, ds0, p0, q0, hargs, rfl, rfl, h0, r0⟩ := trodAll_cons hA
  obtain ⟨v1, vs1, d1, ds1, p1, q1, rfl, rfl, rfl, h1, r1⟩ := trodAll_cons r0
  obtain ⟨rfl, rfl, rfl⟩ := trodAll_nil r1
  obtain rfl : args = #[v0, v1] := by cases args; simp_all
  obtain ⟨rfl, rfl⟩ := trodVars_none hV
  have k0 := h0
  have lt0 : ∀ x ∈ p0, x.block < W.heap.size := by obtain ⟨m, hm⟩ := k0; exact DataW.trod_lt m _ _ _ hm
  obtain ⟨safe, a, cap, ls, rfl, hs, hl, hm, hz⟩ := device_of (hval 0 24 v0 rfl rfl) h0
  have k1 := h1
  have lt1 : ∀ x ∈ p1, x.block < W.heap.size := by obtain ⟨m, hm⟩ := k1; exact DataW.trod_lt m _ _ _ hm
  obtain ⟨kb, kc, ks, rfl, hkm, hk⟩ := nums_of (hval 1 26 v1 rfl rfl) h1
  clear hA0 hval0
  refine (walk safe a cap ls kb kc ks W hs hl hm hz hk hkm).mono fun e W' ⟨he, bel⟩ => ?_
  subst he
  exact ⟨_, rfl, _, _, _, [], _, [], hW', trodAll_mk1 (shut_bool Try.underlying4 _), (trodAll_cons_mk (Below.trod laidOut (by kernel_rfl) (of_decide_eq_true (by kernel_rfl)) k0 bel lt0) (trodAll_cons_mk (Below.trod laidOut (by kernel_rfl) (of_decide_eq_true (by kernel_rfl)) k1 bel lt1) trodAll_mk0)), rfl, bel.frame _, fun h => by cases h⟩

theorem over : Rows.fnExactCrashRow.holds Try.pinned (OpenSpec.ofChange Rows.fnExactCrashSpec) :=
  OpenClaim.holds_of_wide 4 Try.f4 rfl rfl rfl rfl rfl rfl rfl ⟨rfl, rfl, rfl, rfl, rfl⟩ rfl rfl rfl rfl rfl (by kernel_rfl) Try.func4 (by kernel_rfl)
    (of_decide_eq_true (by kernel_rfl)) (by unfold Func.isWrapper; first | (rw [if_pos (by decide +kernel)]; kernel_rfl) | (rw [if_neg (by decide +kernel)]; exact ⟨rfl, rfl⟩))
    (fun os started H enc _ => lifted os started H enc)

theorem proved : Rows.FnExactCrashSaid := over
#print axioms proved
end Go.Proofs.Yteafgnggmpjdmae.fnExactCrash
