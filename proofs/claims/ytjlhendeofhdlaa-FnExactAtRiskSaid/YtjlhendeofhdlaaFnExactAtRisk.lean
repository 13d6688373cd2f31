/-
  FnExactAtRisk: for every device the law that holds the program's AtRisk against the specification's AtRisk returns true, and the device reads as before; no condition.
-/
import Derived.Test.YtjlhendeofhdlaaDevOpen
import Derived.Test.YtjlhendeofhdlaaRisk
import Derived.Deep.RegionWith
import Derived.ProofKit
import Derived.OpenShut
import Derived.ShutString
import Derived.ChangeOld
import Derived.Below
namespace Go.Proofs.Ytjlhendeofhdlaa.fnExactAtRisk
open Go.ChangeShapes Go.WideShapes Go.ChangeAt Go.RowKit
open dev

theorem own : ownKnob Try.prog.godebug = none := by kernel_rfl
theorem laidOut : laidOutB Try.prog = true := by kernel_rfl


set_option linter.unusedVariables false in
set_option maxHeartbeats 4000000 in
theorem walk (safe : ByteArray) (a : Option Addr) (cap : Nat) (ls : List Ln) (w : World) (hs : safe.size ≤ maxLen) (hl : Lines w a ls) (hm : ls.length ≤ maxLen) (hz : ∀ i (hi : i < ls.length), ls[i].data.size ≤ maxLen ∧ ls[i].sent.size ≤ maxLen) :
    Calls Try.prog 4 #[.agg #[.string safe, .slice a ls.length cap]] w fun e w' => e = .returned (.bool true) ∧ Below w.heap.size w w' := by
  have HL : Hid (Lines w a ls) := hl
  obtain ⟨W, hW⟩ : ∃ W, W = w.alloc (.cells #[.string safe, .slice a ls.length cap] 24) := ⟨_, rfl⟩
  have HB0 : Hid (Below w.heap.size w W) := by rw [hW]; exact (Below.refl _ _).alloc (Nat.le_refl _) _
  have hsz : w.heap.size < W.heap.size := by rw [hW]; simp
  have k0 : W.cell? ⟨w.heap.size, 0, none⟩ = some (.string safe) := by rw [hW, World.cell?_alloc_new]; rfl
  have k1 : W.cell? ⟨w.heap.size, 1, none⟩ = some (.slice a ls.length cap) := by rw [hW, World.cell?_alloc_new]; rfl
  have HK : Hid (∀ w', Below W.heap.size W w' → w'.cell? ⟨w.heap.size, 0, none⟩ = some (.string safe) ∧ w'.cell? ⟨w.heap.size, 1, none⟩ = some (.slice a ls.length cap)) := fun w' h =>
    ⟨by rw [h.cell (p := ⟨w.heap.size, 0, none⟩) hsz]; exact k0, by rw [h.cell (p := ⟨w.heap.size, 1, none⟩) hsz]; exact k1⟩
  have HW : Hid (W = w.alloc (.cells #[.string safe, .slice a ls.length cap] 24)) := hW
  have HSZ : Hid (∀ w, Lines w a ls → _) := fun w h => szDevice_any w safe a cap ls hs hm h hz
  have HLW : Hid (∀ w', Below W.heap.size W w' → Lines w' a ls) := fun w' h => (HL.out.below HB0.out).below h
  have HEnd : Hid (∀ w', Below W.heap.size W w' → Below w.heap.size w w') := fun w' h => HB0.out.trans (h.mono HB0.out.size)
  clear k0 k1 hW hl hz
  go_enter Try.func4, Try.ntmps4
  go_wp2_with fail
  rw [← HW.out]
  refine (HSZ.out W (HLW.out W (Below.refl _ _))).mono ?_
  rintro e w1 ⟨r, rfl, hr0, hr1, hb1⟩
  have HB1 : Hid (Below W.heap.size W w1) := hb1
  have HR1 : Hid (0 ≤ r → safe.size ≤ 1048576 ∧ ls.length ≤ 1048576 ∧ ∀ i (hi : i < ls.length), ls[i].data.size ≤ 1048576 ∧ ls[i].sent.size ≤ 1048576) := hr1
  clear hb1 hr1
  by_cases hneg : r < 0
  · go_wp2
    go_ret
    exact ⟨rfl, HEnd.out _ HB1.out⟩
  obtain ⟨hs2, hn2, hz2⟩ := HR1.out (by omega)
  have HZ2 : Hid (∀ i (hi : i < ls.length), ls[i].data.size ≤ 1048576 ∧ ls[i].sent.size ≤ 1048576) := hz2
  obtain ⟨xs, hxl, hsp, him⟩ := risk_both safe ls hs2 hn2 hz2
  have HS : Hid (∀ (w : World) (a : Option Addr) (cap : Nat), Lines w a ls → _) := hsp
  have HI : Hid (∀ (w : World) (a : Option Addr) (cap : Nat), Lines w a ls → _) := him
  clear hz2 hsp him
  obtain ⟨m0, m1⟩ := HK.out w1 HB1.out
  go_wp2_with fail
  refine (toDevice_any w1 safe a cap ls hn2 (HLW.out w1 HB1.out)).mono ?_
  rintro e w2 ⟨g, rfl, hg, hl2, hr2, hb2⟩
  have HL2 : Hid (Lines w2 (some ⟨g, 0, none⟩) ls) := hl2
  have HB2 : Hid (Below W.heap.size W w2) := HB1.out.trans (hb2.mono HB1.out.size)
  clear hl2 hr2 hb2 m0 m1
  go_wp2_with fail
  refine (HS.out w2 _ ls.length HL2.out).mono ?_
  rintro e w3 ⟨b0, g0, c0, rfl, hg0, hi0, hb3⟩
  have HI3 : Hid (Ints w3 b0 g0 xs) := hi0
  have HB3 : Hid (Below W.heap.size W w3) := HB2.out.trans (hb3.mono HB2.out.size)
  have HG0 : Hid (0 < xs.length → g0 < w3.heap.size) := fun h => hi0.lt h
  clear hb3 hi0
  obtain ⟨m0, m1⟩ := HK.out w3 HB3.out
  go_wp2_with fail
  refine (toDevice_any w3 safe a cap ls hn2 (HLW.out w3 HB3.out)).mono ?_
  rintro e w4 ⟨g2, rfl, hg2, hl4, hr4, hb4⟩
  have HB4 : Hid (Below W.heap.size W w4) := HB3.out.trans (hb4.mono HB3.out.size)
  have HG2 : Hid (w3.heap.size ≤ g2) := hg2
  obtain ⟨X, hX⟩ : ∃ X, X = w4.alloc (.cells #[.string safe, .slice (some ⟨g2, 0, none⟩) ls.length ls.length] 28) := ⟨_, rfl⟩
  have hX4 : Below w4.heap.size w4 X := by rw [hX]; exact (Below.refl _ _).alloc (Nat.le_refl _) _
  have HLX : Hid (∀ w', Below X.heap.size X w' → Lines w' (some ⟨g2, 0, none⟩) ls) := fun w' h => (hl4.below hX4).below h
  have HRX : Hid (∀ w', Below X.heap.size X w' → Row w' g2 (ls.length * 3)) := fun w' h => (hr4.grown hX4).grown h
  have HIX : Hid (∀ w', Below X.heap.size X w' → Ints w' b0 g0 xs) := fun w' h => ((HI3.out.below hb4).below hX4).below h
  have HBX : Hid (Below W.heap.size W X) := HB4.out.trans (hX4.mono HB4.out.size)
  have hszX : w4.heap.size < X.heap.size := by rw [hX]; simp
  obtain ⟨r, hr3, hrX, hrg⟩ : ∃ r, w3.heap.size ≤ r ∧ r < X.heap.size ∧ (0 < ls.length → r = g2) := by
    by_cases h : 0 < ls.length
    · obtain ⟨⟨v, hv⟩, _⟩ := HRX.out X (Below.refl _ _) 0 (by omega)
      exact ⟨g2, hg2, World.block_lt_of_cell? X _ hv, fun _ => rfl⟩
    · exact ⟨w4.heap.size, hb4.size, hszX, fun q => absurd q h⟩
  have HRG : Hid (0 < ls.length → r = g2) := hrg
  have HKX : Hid (∀ w', Below X.heap.size X w' → w'.cell? ⟨w4.heap.size, 0, none⟩ = some (.string safe) ∧ w'.cell? ⟨w4.heap.size, 1, none⟩ = some (.slice (some ⟨g2, 0, none⟩) ls.length ls.length)) := fun w' h =>
    ⟨by rw [h.cell (p := ⟨w4.heap.size, 0, none⟩) hszX, hX, World.cell?_alloc_new]; rfl, by rw [h.cell (p := ⟨w4.heap.size, 1, none⟩) hszX, hX, World.cell?_alloc_new]; rfl⟩
  have HX : Hid (X = w4.alloc (.cells #[.string safe, .slice (some ⟨g2, 0, none⟩) ls.length ls.length] 28)) := hX
  clear hX hX4 hl4 hr4 hb4 m0 m1 hrg
  go_wp2_with fail
  rw [← HX.out]
  refine (HI.out X _ ls.length (HLX.out X (Below.refl _ _))).mono ?_
  rintro e w5 ⟨b1, g1, c1, rfl, hg1, hi1, hb5⟩
  have HX5 : Hid (Below X.heap.size X w5) := hb5
  have HI5 : Hid (Ints w5 b1 g1 xs) := hi1
  clear hb5 hi1
  go_wp2_with fail
  refine (eqInt64S_same w5 b1 b0 g1 g0 c1 c0 xs hxl HI5.out (HIX.out w5 HX5.out)).mono ?_
  rintro e w5' ⟨rfl, hb5⟩
  have HX6 : Hid (Below X.heap.size X w5') := HX5.out.trans (hb5.mono HX5.out.size)
  have HI6 : Hid (Ints w5' b1 g1 xs) := HI5.out.below hb5
  have HB6 : Hid (Below W.heap.size W w5') := HBX.out.trans (HX6.out.mono HBX.out.size)
  clear hb5
  obtain ⟨m0, m1⟩ := HK.out w5' HB6.out
  obtain ⟨n0, n1⟩ := HKX.out w5' HX6.out
  have HLa : Hid (Lines w5'.drew a ls) := HLW.out w5' HB6.out
  have HLb : Hid (Lines w5'.drew (some ⟨g2, 0, none⟩) ls) := HLX.out w5' HX6.out
  have HD : Hid (∀ w', Below w5'.drew.heap.size w5'.drew w' → Below w5'.heap.size w5' w') := fun w' h => ⟨h.os, h.tape, h.output, h.size, h.block⟩
  have HKK : Hid (∀ w', Below w5'.drew.heap.size w5'.drew w' → w'.cell? ⟨w4.heap.size, 0, none⟩ = some (.string safe) ∧ w'.cell? ⟨w4.heap.size, 1, none⟩ = some (.slice (some ⟨g2, 0, none⟩) ls.length ls.length)) := fun w' h =>
    HKX.out w' (HX6.out.trans ((HD.out w' h).mono HX6.out.size))
  go_wp2
  go_region_with (first | (go_at_call 7; refine (toDevice_any w5'.drew safe a cap ls hn2 HLa.out).mono ?_; rintro e w6 ⟨g3, rfl, hg3, hl6, hr6, hb6⟩; obtain ⟨o0, o1⟩ := HKK.out w6 hb6) | (go_at_call 9; refine (eqDevice_same w6 safe (some ⟨g2, 0, none⟩) (some ⟨g3, 0, none⟩) ls.length ls.length ls hn2 (HLb.out.below hb6) hl6).mono ?_; rintro e w7 ⟨rfl, hb7⟩))
  all_goals
    have h67 : Below w5'.heap.size w5' w7 := (HD.out w6 hb6).trans (hb7.mono (HD.out w6 hb6).size)
    have HX7 : Hid (Below X.heap.size X w7) := HX6.out.trans (h67.mono HX6.out.size)
    have HB7 : Hid (Below W.heap.size W w7) := HBX.out.trans (HX7.out.mono HBX.out.size)
    have HI7 : Hid (Ints w7 b1 g1 xs) := HI6.out.below h67
    have HJ7 : Hid (Ints w7 b0 g0 xs) := HIX.out w7 HX7.out
    clear hl6 hr6 hb6 hb7 o0 o1 h67 m0 m1 n0 n1
    obtain ⟨n0, n1⟩ := HKX.out w7 HX7.out
    have hg1W : W.heap.size ≤ g1 := Nat.le_trans HBX.out.size hg1
    have hrW : W.heap.size ≤ r := Nat.le_trans HB3.out.size hr3
    have HRr : Hid (Row w7 r (ls.length * 3)) := by
      by_cases h : 0 < ls.length
      · rw [HRG.out h]; exact HRX.out w7 HX7.out
      · exact fun j hj => by omega
    go_wp2_with fail
    refine (markDevice_any w7 safe (some ⟨g2, 0, none⟩) r ls.length ls.length 1 (fun h => by rw [HRG.out h]) HRr.out hn2 (by omega) (by omega)).mono ?_
    rintro e w8 ⟨rfl, hg8⟩
    have HB8 : Hid (Below W.heap.size W w8) := HB7.out.trans (below_of_grown hg8 HB7.out.size hrW)
    have HI8 : Hid (Ints w8 b1 g1 xs) := HI7.out.grown2 hg8 (fun _ => by omega)
    have HJ8 : Hid (Ints w8 b0 g0 xs) := HJ7.out.grown2 hg8 (fun h => by have := HG0.out h; omega)
    clear hg8 n0 n1
    go_wp2_with fail
    refine (eqInt64S_same w8 b1 b0 g1 g0 c1 c0 xs hxl HI8.out HJ8.out).mono ?_
    rintro e w9 ⟨rfl, hb9⟩
    have HB9 : Hid (Below W.heap.size W w9) := HB8.out.trans (hb9.mono HB8.out.size)
    have HI9 : Hid (Ints w9 b1 g1 xs) := HI8.out.below hb9
    have HJ9 : Hid (Ints w9 b0 g0 xs) := HJ8.out.below hb9
    clear hb9
    go_wp2_with fail
    refine (markInt64S_any w9 b1 g1 xs.length c1 xs 1 rfl HI9.out hxl (by omega)).mono ?_
    rintro e w10 ⟨rfl, hg10, hi10⟩
    have HB10 : Hid (Below W.heap.size W w10) := HB9.out.trans (below_of_grown hg10 HB9.out.size hg1W)
    have HI10 : Hid (Ints w10 b1 g1 (marks 1 xs.length)) := hi10
    have HJ10 : Hid (Ints w10 b0 g0 xs) := HJ9.out.grown2 hg10 (fun h => by have := HG0.out h; have := HB4.out.size; omega)
    clear hg10 hi10
    go_wp2_with fail
    refine (heldInt64S_any w10 b1 g1 xs.length c1 1 HI10.out hxl (by omega)).mono ?_
    rintro e w11 ⟨rfl, hb11⟩
    have HB11 : Hid (Below W.heap.size W w11) := HB10.out.trans (hb11.mono HB10.out.size)
    have HI11 : Hid (Ints w11 b1 g1 (marks 1 xs.length)) := HI10.out.below hb11
    have HJ11 : Hid (Ints w11 b0 g0 xs) := HJ10.out.below hb11
    clear hb11
    obtain ⟨m0, m1⟩ := HK.out w11 HB11.out
    have hq0 : (((1 + xs.length : Nat) : Int) != ((1 + xs.length : Nat) : Int)) = false := by simp
    have hq1 : ¬ ((1 + xs.length : Nat) : Int) < 0 := by omega
    go_wp2_with fail
    refine (toDevice_any w11 safe a cap ls hn2 (HLW.out w11 HB11.out)).mono ?_
    rintro e w12 ⟨g4, rfl, hg4, hl12, hr12, hb12⟩
    have HL12 : Hid (Lines w12 (some ⟨g4, 0, none⟩) ls) := hl12
    have HB12 : Hid (Below W.heap.size W w12) := HB11.out.trans (hb12.mono HB11.out.size)
    have HI12 : Hid (Ints w12 b1 g1 (marks 1 xs.length)) := HI11.out.below hb12
    have HJ12 : Hid (Ints w12 b0 g0 xs) := HJ11.out.below hb12
    clear hl12 hr12 hb12 m0 m1
    go_wp2_with fail
    refine (HI.out w12 _ ls.length HL12.out).mono ?_
    rintro e w13 ⟨b2, g5, c2, rfl, hg5, hi13, hb13⟩
    have HB13 : Hid (Below W.heap.size W w13) := HB12.out.trans (hb13.mono HB12.out.size)
    have HI13 : Hid (Ints w13 b1 g1 (marks 1 xs.length)) := HI12.out.below hb13
    have HJ13 : Hid (Ints w13 b0 g0 xs) := HJ12.out.below hb13
    have HH13 : Hid (Ints w13 b2 g5 xs) := hi13
    clear hb13 hi13
    go_wp2_with fail
    refine (eqInt64S_same w13 b2 b0 g5 g0 c2 c0 xs hxl HH13.out HJ13.out).mono ?_
    rintro e w14 ⟨rfl, hb14⟩
    have HB14 : Hid (Below W.heap.size W w14) := HB13.out.trans (hb14.mono HB13.out.size)
    have HI14 : Hid (Ints w14 b1 g1 (marks 1 xs.length)) := HI13.out.below hb14
    clear hb14
    go_wp2_with fail
    refine (heldInt64S_any w14 b1 g1 xs.length c1 1 HI14.out hxl (by omega)).mono ?_
    rintro e w15 ⟨rfl, hb15⟩
    have HB15 : Hid (Below W.heap.size W w15) := HB14.out.trans (hb15.mono HB14.out.size)
    clear hb15
    go_wp2
    go_ret
    exact ⟨rfl, HEnd.out _ HB15.out⟩

set_option maxRecDepth 100000 in
theorem lifted (os : Os) (started : os.Started) (H : Type) (enc : TypeId × Value → H) :
    ReturnsInHanded {} Try.checked os 4 .any (Rows.fnExactAtRiskSpec.pre6 enc Try.prog Try.f4 Rows.fnExactAtRiskRow.domain false) (Rows.fnExactAtRiskSpec.post enc Try.prog Try.f4 false true false false) := by
  refine returnsInHanded_of_change (C := Try.checked) own started (by kernel_rfl) Try.func4
    (ChangeSpec.witness6 (enc := enc) (C := Try.checked) false ⟨#[], #[.agg #[.string ByteArray.empty, .slice none 0 0]], []⟩ 8 (by kernel_rfl) (by kernel_rfl) (by kernel_rfl) (by kernel_rfl)) ?_
  intro W base args ds gs before hval0 hW hcnd _
  have hval : ∀ (j : Nat) t v, Try.f4.params[j]? = some t → args[j]? = some v → Value.okWide Try.prog W .any base t v := hval0
  have hW' := hW
  obtain ⟨p, q, hA0, hV, rfl, hfz, hnd⟩ := hW
  have hA : DataW.TrodAll enc Try.prog W 0 (fun _ => true) true Try.f4.params.toList args.toList ds p := hA0
  rw [Try.params4] at hA hval
  obtain ⟨v0, vs0, d0, ds0, p0, q0, hargs, rfl, rfl, h0, r0⟩ := trodAll_cons hA
  obtain ⟨rfl, rfl, rfl⟩ := trodAll_nil r0
  obtain rfl : args = #[v0] := by cases args; simp_all
  obtain ⟨rfl, rfl⟩ := trodVars_none hV
  have k0 := h0
  have lt0 : ∀ x ∈ p0, x.block < W.heap.size := by obtain ⟨m, hm⟩ := k0; exact DataW.trod_lt m _ _ _ hm
  obtain ⟨safe, a, cap, ls, rfl, hs, hl, hm, hz⟩ := device_of (hval 0 24 v0 rfl rfl) h0

  clear hA0 hval0
  refine (walk safe a cap ls W hs hl hm hz).mono fun e W' ⟨he, bel⟩ => ?_
  subst he
  exact ⟨_, rfl, _, _, _, [], _, [], hW', trodAll_mk1 (shut_bool Try.underlying4 _), (trodAll_cons_mk (Below.trod laidOut (by kernel_rfl) (of_decide_eq_true (by kernel_rfl)) k0 bel lt0) trodAll_mk0), rfl, bel.frame _, fun h => by cases h⟩

theorem over : Rows.fnExactAtRiskRow.holds Try.pinned (OpenSpec.ofChange Rows.fnExactAtRiskSpec) :=
  OpenClaim.holds_of_wide 4 Try.f4 rfl rfl rfl rfl rfl rfl rfl ⟨rfl, rfl, rfl, rfl, rfl⟩ rfl rfl rfl rfl rfl (by kernel_rfl) Try.func4 (by kernel_rfl)
    (of_decide_eq_true (by kernel_rfl)) (by unfold Func.isWrapper; first | (rw [if_pos (by decide +kernel)]; kernel_rfl) | (rw [if_neg (by decide +kernel)]; exact ⟨rfl, rfl⟩))
    (fun os started H enc _ => lifted os started H enc)

theorem proved : Rows.FnExactAtRiskSaid := over
#print axioms proved
end Go.Proofs.Ytjlhendeofhdlaa.fnExactAtRisk
