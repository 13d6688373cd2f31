/-
  FnExactStore: for every device, place and text the law that holds the program's Store against the specification's Store returns true, and the device, the place and the text read as before; no condition.
-/
import Derived.Test.YtjlhendeofhdlaaDevOpen
import Derived.Test.YtjlhendeofhdlaaStore6
import Derived.Test.YtjlhendeofhdlaaTrio
import Derived.Deep.RegionWith
import Derived.ProofKit
import Derived.OpenShut
import Derived.ShutString
import Derived.ChangeOld
import Derived.Below
namespace Go.Proofs.Ytjlhendeofhdlaa.fnExactStore
open Go.ChangeShapes Go.WideShapes Go.ChangeAt Go.RowKit
open dev

theorem own : ownKnob Try.prog.godebug = none := by kernel_rfl
theorem laidOut : laidOutB Try.prog = true := by kernel_rfl


set_option linter.unusedVariables false in
set_option maxHeartbeats 4000000 in
theorem walk (safe : ByteArray) (a : Option Addr) (cap : Nat) (ls : List Ln) (x1 : Int) (x2 : ByteArray) (w : World) (hs : safe.size ≤ maxLen) (hl : Lines w a ls) (hm : ls.length ≤ maxLen) (hz : ∀ i (hi : i < ls.length), ls[i].data.size ≤ maxLen ∧ ls[i].sent.size ≤ maxLen) (hx1 : (Lit.int .i64 x1).wf = true) (hx2 : x2.size ≤ maxLen) :
    Calls Try.prog 3 #[.agg #[.string safe, .slice a ls.length cap], .int .i64 x1, .string x2] w fun e w' => e = .returned (.bool true) ∧ Below w.heap.size w w' := by
  have HL : Hid (Lines w a ls) := hl
  obtain ⟨W, hW⟩ : ∃ W, W = w.alloc (.cells #[.string safe, .slice a ls.length cap] 24) := ⟨_, rfl⟩
  have HB0 : Hid (Below w.heap.size w W) := by rw [hW]; exact (Below.refl _ _).alloc (Nat.le_refl _) _
  have hsz : w.heap.size < W.heap.size := by rw [hW]; simp
  have k0 : W.cell? ⟨w.heap.size, 0, none⟩ = some (.string safe) := by rw [hW, World.cell?_alloc_new]; rfl
  have k1 : W.cell? ⟨w.heap.size, 1, none⟩ = some (.slice a ls.length cap) := by rw [hW, World.cell?_alloc_new]; rfl
  have HK : Hid (∀ w', Below W.heap.size W w' → w'.cell? ⟨w.heap.size, 0, none⟩ = some (.string safe) ∧ w'.cell? ⟨w.heap.size, 1, none⟩ = some (.slice a ls.length cap)) := fun w' h =>
    ⟨by rw [h.cell (p := ⟨w.heap.size, 0, none⟩) hsz]; exact k0, by rw [h.cell (p := ⟨w.heap.size, 1, none⟩) hsz]; exact k1⟩
  have HW : Hid (W = w.alloc (.cells #[.string safe, .slice a ls.length cap] 24)) := hW
  have HSZ : Hid (∀ w, Lines w a ls → _) := fun w h => szDevice_any w safe a cap ls hs hm h hz
  have HLW : Hid (∀ w', Below W.heap.size W w' → Lines w' a ls) := fun w' h => (HL.out.below HB0.out).below h
  have HEnd : Hid (∀ w', Below W.heap.size W w' → Below w.heap.size w w') := fun w' h => HB0.out.trans (h.mono HB0.out.size)
  clear k0 k1 hW hl hz
  unfold maxLen at hx2
  by_cases hbig : (1048576 : Int) < (x2.size : Int)
  · go_enter Try.func3, Try.ntmps3
    go_wp2
    go_ret
    exact ⟨rfl, by first | (rw [← HW.out]; exact HB0.out) | exact HB0.out | exact Below.refl _ _⟩
  have hd2 : x2.size ≤ 1048576 := by omega
  go_enter Try.func3, Try.ntmps3
  go_wp2_with fail
  rw [← HW.out]
  refine (HSZ.out W (HLW.out W (Below.refl _ _))).mono ?_
  rintro e w1 ⟨r, rfl, hr0, hr1, hb1⟩
  have HB1 : Hid (Below W.heap.size W w1) := hb1
  have HR1 : Hid (0 ≤ r → safe.size ≤ 1048576 ∧ ls.length ≤ 1048576 ∧ ∀ i (hi : i < ls.length), ls[i].data.size ≤ 1048576 ∧ ls[i].sent.size ≤ 1048576) := hr1
  clear hb1 hr1
  by_cases hneg : r < 0
  · go_wp2
    go_ret
    exact ⟨rfl, HEnd.out _ HB1.out⟩
  obtain ⟨hs2, hn2, hz2⟩ := HR1.out (by omega)
  have HZ2 : Hid (∀ i (hi : i < ls.length), ls[i].data.size ≤ 1048576 ∧ ls[i].sent.size ≤ 1048576) := hz2
  obtain ⟨st, L, ok, hLn, hsp, him⟩ := store_both safe ls x1 x2 (i64_in hx1).2 hd2 hs2 hn2 hz2
  have HS : Hid (∀ (w : World) (a : Option Addr) (cap : Nat), Lines w a ls → _) := hsp
  have HI : Hid (∀ (w : World) (a : Option Addr) (cap : Nat), Lines w a ls → _) := him
  clear hz2 hsp him HZ2
  have hbb : (ok != ok) = false := by simp
  obtain ⟨m0, m1⟩ := HK.out w1 HB1.out
  go_wp2_with fail
  refine (toDevice_any w1 safe a cap ls hn2 (HLW.out w1 HB1.out)).mono ?_
  rintro e w2 ⟨g, rfl, hg, hl2, hr2, hb2⟩
  have HL2 : Hid (Lines w2 (some ⟨g, 0, none⟩) ls) := hl2
  have HB2 : Hid (Below W.heap.size W w2) := HB1.out.trans (hb2.mono HB1.out.size)
  clear hl2 hr2 hb2 m0 m1 hg
  go_wp2_with fail
  refine (HS.out w2 _ ls.length HL2.out).mono ?_
  rintro e w3 ⟨a6, c6, rfl, hl6, hb3⟩
  have HB3 : Hid (Below W.heap.size W w3) := HB2.out.trans (hb3.mono HB2.out.size)
  have HQ6 : Hid (∀ b off, a6 = some ⟨b, off, none⟩ → 0 < L.length → b < w3.heap.size) := hl6.block
  obtain ⟨X6, hX6⟩ : ∃ X, X = w3.alloc (.cells #[.string st, .slice a6 L.length c6] 28) := ⟨_, rfl⟩
  have hB6 : Below w3.heap.size w3 X6 := by rw [hX6]; exact (Below.refl _ _).alloc (Nat.le_refl _) _
  have hs6 : w3.heap.size < X6.heap.size := by rw [hX6]; simp
  have HBX6 : Hid (Below W.heap.size W X6) := HB3.out.trans (hB6.mono HB3.out.size)
  have HK6 : Hid (∀ w', Below X6.heap.size X6 w' → w'.cell? ⟨w3.heap.size, 0, none⟩ = some (.string st) ∧ w'.cell? ⟨w3.heap.size, 1, none⟩ = some (.slice a6 L.length c6) ∧ Lines w' a6 L) := fun w' h =>
    ⟨by rw [h.cell (p := ⟨w3.heap.size, 0, none⟩) hs6, hX6, World.cell?_alloc_new]; rfl, by rw [h.cell (p := ⟨w3.heap.size, 1, none⟩) hs6, hX6, World.cell?_alloc_new]; rfl, (hl6.below hB6).below h⟩
  have HX6 : Hid (X6 = w3.alloc (.cells #[.string st, .slice a6 L.length c6] 28)) := hX6
  have HW3 : Hid (W.heap.size ≤ w3.heap.size) := HB3.out.size
  clear hb3 hX6 hB6 hl6
  obtain ⟨m0, m1⟩ := HK.out X6 HBX6.out
  go_wp2_with (rw [← HX6.out])
  refine (toDevice_any X6 safe a cap ls hn2 (HLW.out X6 HBX6.out)).mono ?_
  rintro e w4 ⟨g2, rfl, hg2, hl4, hr4, hb4⟩
  have HB4 : Hid (Below X6.heap.size X6 w4) := hb4
  obtain ⟨X, hX⟩ : ∃ X, X = w4.alloc (.cells #[.string safe, .slice (some ⟨g2, 0, none⟩) ls.length ls.length] 28) := ⟨_, rfl⟩
  have hX4 : Below w4.heap.size w4 X := by rw [hX]; exact (Below.refl _ _).alloc (Nat.le_refl _) _
  have HLX : Hid (∀ w', Below X.heap.size X w' → Lines w' (some ⟨g2, 0, none⟩) ls) := fun w' h => (hl4.below hX4).below h
  have HRX : Hid (∀ w', Below X.heap.size X w' → Row w' g2 (ls.length * 3)) := fun w' h => (hr4.grown hX4).grown h
  have HBX : Hid (Below X6.heap.size X6 X) := HB4.out.trans (hX4.mono HB4.out.size)
  have HWX : Hid (∀ w', Below X.heap.size X w' → Below W.heap.size W w') := fun w' h => (HBX6.out.trans (HBX.out.mono HBX6.out.size)).trans (h.mono (Nat.le_trans HBX6.out.size HBX.out.size))
  have H6X : Hid (∀ w', Below X.heap.size X w' → Below X6.heap.size X6 w') := fun w' h => HBX.out.trans (h.mono HBX.out.size)
  have hszX : w4.heap.size < X.heap.size := by rw [hX]; simp
  obtain ⟨r, hr3, hrX, hrg⟩ : ∃ r, X6.heap.size ≤ r ∧ r < X.heap.size ∧ (0 < ls.length → r = g2) := by
    by_cases h : 0 < ls.length
    · obtain ⟨⟨v, hv⟩, _⟩ := HRX.out X (Below.refl _ _) 0 (by omega)
      exact ⟨g2, hg2, World.block_lt_of_cell? X _ hv, fun _ => rfl⟩
    · exact ⟨w4.heap.size, hb4.size, hszX, fun q => absurd q h⟩
  have HRG : Hid (0 < ls.length → r = g2) := hrg
  have HKX : Hid (∀ w', Below X.heap.size X w' → w'.cell? ⟨w4.heap.size, 0, none⟩ = some (.string safe) ∧ w'.cell? ⟨w4.heap.size, 1, none⟩ = some (.slice (some ⟨g2, 0, none⟩) ls.length ls.length)) := fun w' h =>
    ⟨by rw [h.cell (p := ⟨w4.heap.size, 0, none⟩) hszX, hX, World.cell?_alloc_new]; rfl, by rw [h.cell (p := ⟨w4.heap.size, 1, none⟩) hszX, hX, World.cell?_alloc_new]; rfl⟩
  have HX : Hid (X = w4.alloc (.cells #[.string safe, .slice (some ⟨g2, 0, none⟩) ls.length ls.length] 28)) := hX
  clear hX hX4 hl4 hr4 hb4 m0 m1 hrg hg2
  obtain ⟨n0, n1⟩ := HKX.out X (Below.refl _ _)
  go_wp2_with (rw [← HX.out])
  refine (HI.out X _ ls.length (HLX.out X (Below.refl _ _))).mono ?_
  rintro e w6 ⟨a9, g9, c9, rfl, hg9, ha9, hl9, hr9, hb6⟩
  obtain ⟨X9, hX9⟩ : ∃ X, X = w6.alloc (.cells #[.string st, .slice a9 L.length c9] 28) := ⟨_, rfl⟩
  have hB9 : Below w6.heap.size w6 X9 := by rw [hX9]; exact (Below.refl _ _).alloc (Nat.le_refl _) _
  have hs9 : w6.heap.size < X9.heap.size := by rw [hX9]; simp
  have hXw6 : X.heap.size ≤ w6.heap.size := hb6.size
  have HX9X : Hid (Below X.heap.size X X9) := hb6.trans (hB9.mono hb6.size)
  have HX9 : Hid (X9 = w6.alloc (.cells #[.string st, .slice a9 L.length c9] 28)) := hX9
  obtain ⟨r9, hr9X, hr9n, hr9g⟩ : ∃ r9, X.heap.size ≤ r9 ∧ r9 ≠ w6.heap.size ∧ (0 < L.length → r9 = g9) := by
    by_cases h : 0 < L.length
    · obtain ⟨⟨v, hv⟩, _⟩ := hr9 0 (by omega)
      have := World.block_lt_of_cell? w6 _ hv
      exact ⟨g9, hg9, by simp only at this; omega, fun _ => rfl⟩
    · exact ⟨w6.heap.size + 1, by omega, by omega, fun q => absurd q h⟩
  have HA9 : Hid (0 < L.length → a9 = some ⟨r9, 0, none⟩) := fun h => by rw [ha9 h, hr9g h]
  have hrow : Row X9 r9 (L.length * 3) := by
    by_cases h : 0 < L.length
    · rw [hr9g h]; exact hr9.grown hB9
    · exact fun j hj => by omega
  have HT9 : Hid (Trio W X9 w3.heap.size w6.heap.size st L.length a6 a9 c6 c9 L L r9) := ⟨HWX.out X9 HX9X.out, (HK6.out X9 (H6X.out X9 HX9X.out)).1, (HK6.out X9 (H6X.out X9 HX9X.out)).2.1, by rw [hX9, World.cell?_alloc_new]; rfl, by rw [hX9, World.cell?_alloc_new]; rfl, (HK6.out X9 (H6X.out X9 HX9X.out)).2.2, hl9.below hB9, hrow⟩
  clear hb6 hX9 hB9 hg9 ha9 hl9 hr9 hr9g hrow n0 n1
  obtain ⟨_, t0, t1, t2, t3, _, _, _⟩ := HT9.out
  go_wp2_with (rw [← HX9.out])
  refine (eqDevice_same X9 st a9 a6 c9 c6 L hLn HT9.out.l9 HT9.out.l6).mono ?_
  rintro e w7 ⟨rfl, hb7⟩
  have HX7 : Hid (Below X.heap.size X w7) := HX9X.out.trans (hb7.mono HX9X.out.size)
  have HT7 : Hid (Trio W w7 w3.heap.size w6.heap.size st L.length a6 a9 c6 c9 L L r9) := HT9.out.below hb7
  have HB7 : Hid (Below W.heap.size W w7) := HT7.out.1
  clear hb7 t0 t1 t2 t3
  obtain ⟨m0, m1⟩ := HK.out w7 HB7.out
  obtain ⟨n0, n1⟩ := HKX.out w7 HX7.out
  have HLa : Hid (Lines w7.drew a ls) := HLW.out w7 HB7.out
  have HLb : Hid (Lines w7.drew (some ⟨g2, 0, none⟩) ls) := HLX.out w7 HX7.out
  have HD : Hid (∀ w', Below w7.drew.heap.size w7.drew w' → Below w7.heap.size w7 w') := fun w' h => ⟨h.os, h.tape, h.output, h.size, h.block⟩
  have HKK : Hid (∀ w', Below w7.drew.heap.size w7.drew w' → w'.cell? ⟨w4.heap.size, 0, none⟩ = some (.string safe) ∧ w'.cell? ⟨w4.heap.size, 1, none⟩ = some (.slice (some ⟨g2, 0, none⟩) ls.length ls.length)) := fun w' h =>
    HKX.out w' (HX7.out.trans ((HD.out w' h).mono HX7.out.size))
  go_wp2
  go_region_with (first | (go_at_call 7; refine (toDevice_any w7.drew safe a cap ls hn2 HLa.out).mono ?_; rintro e w8 ⟨g3, rfl, hg3, hl8, hr8, hb8⟩; obtain ⟨o0, o1⟩ := HKK.out w8 hb8) | (go_at_call 9; refine (eqDevice_same w8 safe (some ⟨g2, 0, none⟩) (some ⟨g3, 0, none⟩) ls.length ls.length ls hn2 (HLb.out.below hb8) hl8).mono ?_; rintro e w9 ⟨rfl, hb9⟩))
  all_goals
    have h79 : Below w7.heap.size w7 w9 := (HD.out w8 hb8).trans (hb9.mono (HD.out w8 hb8).size)
    have HXa : Hid (Below X.heap.size X w9) := HX7.out.trans (h79.mono HX7.out.size)
    have HTa : Hid (Trio W w9 w3.heap.size w6.heap.size st L.length a6 a9 c6 c9 L L r9) := HT7.out.below h79
    clear hl8 hr8 hb8 hb9 o0 o1 h79 m0 m1 n0 n1
    obtain ⟨n0, n1⟩ := HKX.out w9 HXa.out
    have HRr : Hid (Row w9 r (ls.length * 3)) := by
      by_cases h : 0 < ls.length
      · rw [HRG.out h]; exact HRX.out w9 HXa.out
      · exact fun j hj => by omega
    have hW3 := HW3.out
    have hXX : X6.heap.size ≤ X.heap.size := HBX.out.size
    go_wp2_with fail
    refine (markDevice_any w9 safe (some ⟨g2, 0, none⟩) r ls.length ls.length 1 (fun h => by rw [HRG.out h]) HRr.out hn2 (by omega) (by omega)).mono ?_
    rintro e w12 ⟨rfl, hg12⟩
    have HTd : Hid (Trio W w12 w3.heap.size w6.heap.size st L.length a6 a9 c6 c9 L L r9) := HTa.out.grown hg12 (by omega) (by omega) (by omega) (fun b off e h => by have := HQ6.out b off e h; omega) (fun b off e h => by have q := HA9.out h; rw [e] at q; injection q with q; injection q with q; omega) (fun _ => by omega)
    clear hg12 n0 n1
    have hq1 : ¬ ((1 + ls.length * 3 : Nat) : Int) < 0 := by omega
    obtain ⟨_, t0, t1, t2, t3, _, _, _⟩ := HTd.out
    go_wp2_with fail
    refine (eqDevice_same w12 st a9 a6 c9 c6 L hLn HTd.out.l9 HTd.out.l6).mono ?_
    rintro e w14 ⟨rfl, hb14⟩
    have HTf : Hid (Trio W w14 w3.heap.size w6.heap.size st L.length a6 a9 c6 c9 L L r9) := HTd.out.below hb14
    clear hb14 t0 t1 t2 t3
    obtain ⟨_, t0, t1, t2, t3, _, _, _⟩ := HTf.out
    go_wp2_with fail
    refine (markDevice_full w14 st a9 r9 L.length c9 1 HA9.out HTf.out.row hLn (by omega) (by omega)).mono ?_
    rintro e w15 ⟨rfl, hg15, hm15⟩
    have HTg : Hid (Duo W w15 w3.heap.size w6.heap.size st L.length a6 a9 c6 c9 L (markLs 1 L.length)) := HTf.out.marked hg15 (by omega) (by omega) (by omega) (fun b off e h => by have := HQ6.out b off e h; omega) hm15
    clear hg15 hm15 t0 t1 t2 t3
    obtain ⟨_, t0, t1, t2, t3, _, _⟩ := HTg.out
    have hq2 : ¬ ((1 + L.length * 3 : Nat) : Int) < 0 := by omega
    have hq3 : (((1 + L.length * 3 : Nat) : Int) != ((1 + L.length * 3 : Nat) : Int)) = false := by simp
    go_wp2_with fail
    refine (heldDevice_any w15 st a9 L.length c9 1 HTg.out.l9 hLn (by omega) (by omega)).mono ?_
    rintro e w16 ⟨rfl, hb16⟩
    have HTh : Hid (Duo W w16 w3.heap.size w6.heap.size st L.length a6 a9 c6 c9 L (markLs 1 L.length)) := HTg.out.below hb16
    clear hb16 t0 t1 t2 t3
    obtain ⟨m0, m1⟩ := HK.out w16 HTh.out.1
    go_wp2_with fail
    refine (toDevice_any w16 safe a cap ls hn2 (HLW.out w16 HTh.out.1)).mono ?_
    rintro e w17 ⟨g4, rfl, hg4, hl17, hr17, hb17⟩
    have HL17 : Hid (Lines w17 (some ⟨g4, 0, none⟩) ls) := hl17
    have HTi : Hid (Duo W w17 w3.heap.size w6.heap.size st L.length a6 a9 c6 c9 L (markLs 1 L.length)) := HTh.out.below hb17
    clear hl17 hr17 hb17 m0 m1
    go_wp2_with fail
    refine (HI.out w17 _ ls.length HL17.out).mono ?_
    rintro e w19 ⟨a10, g10, c10, rfl, hg10, ha10, hl10, hr10, hb19⟩
    obtain ⟨Y, hY⟩ : ∃ X, X = w19.alloc (.cells #[.string st, .slice a10 L.length c10] 28) := ⟨_, rfl⟩
    have hBY : Below w19.heap.size w19 Y := by rw [hY]; exact (Below.refl _ _).alloc (Nat.le_refl _) _
    have HTk : Hid (Duo W Y w3.heap.size w6.heap.size st L.length a6 a9 c6 c9 L (markLs 1 L.length)) := (HTi.out.below hb19).below hBY
    have u0 : Y.cell? ⟨w19.heap.size, 0, none⟩ = some (.string st) := by rw [hY, World.cell?_alloc_new]; rfl
    have u1 : Y.cell? ⟨w19.heap.size, 1, none⟩ = some (.slice a10 L.length c10) := by rw [hY, World.cell?_alloc_new]; rfl
    have HL10 : Hid (Lines Y a10 L) := hl10.below hBY
    have HY : Hid (Y = w19.alloc (.cells #[.string st, .slice a10 L.length c10] 28)) := hY
    clear hb19 hY hBY hg10 ha10 hl10 hr10
    obtain ⟨_, t0, t1, t2, t3, _, _⟩ := HTk.out
    go_wp2_with (rw [← HY.out])
    refine (eqDevice_same Y st a10 a6 c10 c6 L hLn HL10.out HTk.out.l6).mono ?_
    rintro e w20 ⟨rfl, hb20⟩
    have HTl : Hid (Duo W w20 w3.heap.size w6.heap.size st L.length a6 a9 c6 c9 L (markLs 1 L.length)) := HTk.out.below hb20
    clear hb20 t0 t1 t2 t3 u0 u1
    obtain ⟨_, t0, t1, t2, t3, _, _⟩ := HTl.out
    go_wp2_with fail
    refine (heldDevice_any w20 st a9 L.length c9 1 HTl.out.l9 hLn (by omega) (by omega)).mono ?_
    rintro e w21 ⟨rfl, hb21⟩
    have HTm : Hid (Duo W w21 w3.heap.size w6.heap.size st L.length a6 a9 c6 c9 L (markLs 1 L.length)) := HTl.out.below hb21
    clear hb21 t0 t1 t2 t3
    go_wp2
    go_ret
    exact ⟨rfl, HEnd.out _ HTm.out.1⟩

set_option maxRecDepth 100000 in
theorem lifted (os : Os) (started : os.Started) (H : Type) (enc : TypeId × Value → H) :
    ReturnsInHanded {} Try.checked os 3 .any (Rows.fnExactStoreSpec.pre6 enc Try.prog Try.f3 Rows.fnExactStoreRow.domain false) (Rows.fnExactStoreSpec.post enc Try.prog Try.f3 false true false false) := by
  refine returnsInHanded_of_change (C := Try.checked) own started (by kernel_rfl) Try.func3
    (ChangeSpec.witness6 (enc := enc) (C := Try.checked) false ⟨#[], #[.agg #[.string ByteArray.empty, .slice none 0 0], .int .i64 0, .string ByteArray.empty], []⟩ 8 (by kernel_rfl) (by kernel_rfl) (by kernel_rfl) (by kernel_rfl)) ?_
  intro W base args ds gs before hval0 hW hcnd _
  have hval : ∀ (j : Nat) t v, Try.f3.params[j]? = some t → args[j]? = some v → Value.okWide Try.prog W .any base t v := hval0
  have hW' := hW
  obtain ⟨p, q, hA0, hV, rfl, hfz, hnd⟩ := hW
  have hA : DataW.TrodAll enc Try.prog W 0 (fun _ => true) true Try.f3.params.toList args.toList ds p := hA0
  rw [Try.params3] at hA hval
  obtain ⟨v0, vs0, d0, ds0, p0, q0, hargs, rfl, rfl, h0, r0⟩ := trodAll_cons hA
  obtain ⟨v1, vs1, d1, ds1, p1, q1, rfl, rfl, rfl, h1, r1⟩ := trodAll_cons r0
  obtain ⟨v2, vs2, d2, ds2, p2, q2, rfl, rfl, rfl, h2, r2⟩ := trodAll_cons r1
  obtain ⟨rfl, rfl, rfl⟩ := trodAll_nil r2
  obtain rfl : args = #[v0, v1, v2] := by cases args; simp_all
  obtain ⟨rfl, rfl⟩ := trodVars_none hV
  have k0 := h0
  have lt0 : ∀ x ∈ p0, x.block < W.heap.size := by obtain ⟨m, hm⟩ := k0; exact DataW.trod_lt m _ _ _ hm
  obtain ⟨safe, a, cap, ls, rfl, hs, hl, hm, hz⟩ := device_of (hval 0 24 v0 rfl rfl) h0
  obtain ⟨x1, rfl, rfl, rfl, hx1⟩ := open_int Try.underlying2 (hval 1 2 v1 rfl rfl) h1
  obtain ⟨x2, rfl, rfl, rfl, hx2⟩ := Go.ChangeMaps.open_string Try.underlying9 (hval 2 9 v2 rfl rfl) h2
  clear hA0 hval0
  refine (walk safe a cap ls x1 x2 W hs hl hm hz hx1 hx2).mono fun e W' ⟨he, bel⟩ => ?_
  subst he
  exact ⟨_, rfl, _, _, _, [], _, [], hW', trodAll_mk1 (shut_bool Try.underlying4 _), (trodAll_cons_mk (Below.trod laidOut (by kernel_rfl) (of_decide_eq_true (by kernel_rfl)) k0 bel lt0) (trodAll_cons_mk (shut_int Try.underlying2 hx1) (trodAll_cons_mk (Go.ChangeMaps.shut_string Try.underlying9 hx2) trodAll_mk0))), rfl, bel.frame _, fun h => by cases h⟩

theorem over : Rows.fnExactStoreRow.holds Try.pinned (OpenSpec.ofChange Rows.fnExactStoreSpec) :=
  OpenClaim.holds_of_wide 3 Try.f3 rfl rfl rfl rfl rfl rfl rfl ⟨rfl, rfl, rfl, rfl, rfl⟩ rfl rfl rfl rfl rfl (by kernel_rfl) Try.func3 (by kernel_rfl)
    (of_decide_eq_true (by kernel_rfl)) (by unfold Func.isWrapper; first | (rw [if_pos (by decide +kernel)]; kernel_rfl) | (rw [if_neg (by decide +kernel)]; exact ⟨rfl, rfl⟩))
    (fun os started H enc _ => lifted os started H enc)

theorem proved : Rows.FnExactStoreSaid := over
#print axioms proved
end Go.Proofs.Ytjlhendeofhdlaa.fnExactStore
