/-
  FnExactReadObject: for every slice of texts and every text the law that holds the program's ReadObject against the specification's ReadObject returns true, and the arguments read as before; no condition.
-/
import Derived.Test.YtodbdpgjoofdfaaObjVar
import Derived.ProofKit
import Derived.OpenShut
import Derived.ShutString
import Derived.ChangeOld
import Derived.Below
import Derived.Lib.SmallJoins
namespace Go.Proofs.Ytodbdpgjoofdfaa.fnExactReadObject
open Go.ChangeShapes Go.WideShapes Go.ChangeAt Go.RowKit
open kinds ints obj txt

theorem own : ownKnob Try.prog.godebug = none := by kernel_rfl
theorem laidOut : laidOutB Try.prog = true := by kernel_rfl


set_option linter.unusedVariables false in
set_option maxHeartbeats 4000000 in
theorem walk (a0 : Option Addr) (c0 : Nat) (xs0 : List ByteArray) (s1 : ByteArray) (w : World) (hl0 : Strs w a0 xs0) (hm0 : xs0.length ≤ maxLen) (hz0 : ∀ i (hi : i < xs0.length), xs0[i].size ≤ maxLen) (hs1 : s1.size ≤ maxLen) :
    Calls Try.prog 7 #[.slice a0 xs0.length c0, .string s1] w fun e w' => e = .returned (.bool true) ∧ Below w.heap.size w w' := by
  unfold maxLen at hs1
  have HL : Hid (Strs w a0 xs0) := hl0
  by_cases hbig : (1048576 : Int) < (s1.size : Int)
  · go_enter Try.func7, Try.ntmps7
    go_wp2
    go_ret
    exact ⟨rfl, Below.refl _ _⟩
  have HLW : Hid (∀ w', Below w.heap.size w w' → Strs w' a0 xs0) := fun w' h => HL.out.below h
  have HSZ : Hid (∀ w', w' = w → Calls _ _ _ w' _) := fun w' q => szStringS_any w' a0 c0 xs0 1048576 (by omega) (by omega) hm0 (q ▸ hl0) hz0
  have hs20 : s1.size ≤ 1048576 := by omega
  clear hl0 hz0 hm0
  go_enter Try.func7, Try.ntmps7
  go_wp2_with fail
  refine (HSZ.out w rfl).mono ?_
  rintro e w1 ⟨r, rfl, hr0, hr1, hr2, hw⟩
  subst hw
  by_cases hneg : r < 0
  · go_wp2
    go_ret
    exact ⟨rfl, Below.refl _ _⟩
  obtain ⟨hn, hz⟩ := hr2 (by omega)
  have HS : Hid (∀ (w : World) (a : Option Addr) (cap : Nat), Strs w a xs0 → Calls _ _ _ w _) := fun w a cap q => (spec_readobj w a cap xs0 s1 hn hz q hs20).mono fun _ _ h => rout_of h
  have HI : Hid (∀ (w : World) (a : Option Addr) (cap : Nat), Strs w a xs0 → Calls _ _ _ w _) := fun w a cap q => (impl_readobj w a cap xs0 s1 hn hz q hs20).mono fun _ _ h => rout_of h
  have hvl := roV_len xs0 s1 hs20
  obtain ⟨n, hnn⟩ : ∃ n, n = (roV xs0 s1).length := ⟨_, rfl⟩
  rw [← hnn] at HS HI hvl
  have HLN : Hid ((roV xs0 s1).length = n) := hnn.symm
  generalize roT xs0 s1 = t at HS HI
  generalize roV xs0 s1 = vs at HS HI HLN
  generalize roB xs0 s1 = b at HS HI
  clear hnn hz hr0 hr1 hr2
  have hbb : (b != b) = false := by simp
  go_wp2_with fail
  refine (toStringS_any w a0 c0 xs0 hn HL.out).mono ?_
  rintro e w1 ⟨gA, rfl, hgA, hgA2, hlA, hrA, hbA⟩
  have HA : Hid (Strs w1 (some ⟨gA, 0, none⟩) xs0) := hlA
  have HB1 : Hid (Below w.heap.size w w1) := hbA
  clear hgA hgA2 hlA hrA hbA
  go_wp2_with fail
  refine (HS.out w1 _ _ HA.out).mono ?_
  rintro e w2 ⟨a1, g1, k1, rfl, hg1, ht1, hb2⟩
  obtain ⟨X, hX⟩ : ∃ X, X = w2.alloc (.cells #[.int .i64 t, .slice a1 n k1] 27) := ⟨_, rfl⟩
  have HX : Hid (X = w2.alloc (.cells #[.int .i64 t, .slice a1 n k1] 27)) := hX
  have HW2 : Hid (Below w.heap.size w w2) := HB1.out.trans (hb2.mono HB1.out.size)
  have HXB : Hid (Below w.heap.size w X) := by rw [hX]; exact HW2.out.alloc HW2.out.size _
  obtain ⟨b1, hb1e⟩ : ∃ b1, b1 = w2.heap.size := ⟨_, rfl⟩
  have HE1 : Hid (b1 = w2.heap.size) := hb1e
  have HV1 : Hid (OVar b1 t a1 g1 n k1 vs X) := by rw [hX, hb1e]; exact OVar.start w2 t a1 g1 n k1 vs _ HLN.out ht1
  have HG1 : Hid (0 < vs.length → g1 < b1) := fun h => by rw [hb1e]; exact ht1.lt h
  clear hX hb2 ht1 hb1e hg1
  go_wp2_with fail
  rw [← HX.out, ← HE1.out]
  refine (toStringS_any X a0 c0 xs0 hn (HLW.out _ HXB.out)).mono ?_
  rintro e w3 ⟨gB, rfl, hgB, hgB2, hlB, hrB, hbB⟩
  have HTB : Hid (Txts w3 (some ⟨gB, 0, none⟩) gB xs0) := txts_of hlB hrB
  have HV1b : Hid (OVar b1 t a1 g1 n k1 vs w3) := HV1.out.below hbB
  have HW3 : Hid (Below w.heap.size w w3) := HXB.out.trans (hbB.mono HXB.out.size)
  have HGB : Hid (b1 < gB ∧ gB < w3.heap.size ∧ w.heap.size ≤ gB) := ⟨by have := HV1.out.lt; omega, hgB2, by have := HXB.out.size; omega⟩
  clear hgB hgB2 hlB hrB hbB HV1
  go_wp2_with fail
  refine (HI.out w3 _ _ HTB.out.strs).mono ?_
  rintro e w4 ⟨a2, g2, k2, rfl, hg2, ht2, hb4⟩
  have HV1c : Hid (OVar b1 t a1 g1 n k1 vs w4) := HV1b.out.below hb4
  have HTC : Hid (Txts w4 (some ⟨gB, 0, none⟩) gB xs0) := HTB.out.below hb4
  have m0 := HV1c.out.c0
  have m1 := HV1c.out.c1
  have hlt := HV1c.out.lt
  obtain ⟨Y, hY⟩ : ∃ Y, Y = w4.alloc (.cells #[.int .i64 t, .slice a2 n k2] 27) := ⟨_, rfl⟩
  have HY : Hid (Y = w4.alloc (.cells #[.int .i64 t, .slice a2 n k2] 27)) := hY
  have HYB : Hid (Below w4.heap.size w4 Y) := by rw [hY]; exact (Below.refl _ _).alloc (Nat.le_refl _) _
  obtain ⟨b2, hb2e⟩ : ∃ b2, b2 = w4.heap.size := ⟨_, rfl⟩
  have HE2 : Hid (b2 = w4.heap.size) := hb2e
  have HV2 : Hid (OVar b2 t a2 g2 n k2 vs Y) := by rw [hY, hb2e]; exact OVar.start w4 t a2 g2 n k2 vs _ HLN.out ht2
  have HG2 : Hid (0 < vs.length → g2 < b2) := fun h => by rw [hb2e]; exact ht2.lt h
  have HO2 : Hid (w3.heap.size ≤ g2 ∧ w3.heap.size ≤ b2) := ⟨hg2, by rw [hb2e]; exact hb4.size⟩
  have HW4 : Hid (Below w.heap.size w w4) := HW3.out.trans (hb4.mono HW3.out.size)
  have HWY : Hid (Below w.heap.size w Y) := HW4.out.trans (HYB.out.mono HW4.out.size)
  have HV1y : Hid (OVar b1 t a1 g1 n k1 vs Y) := HV1c.out.below HYB.out
  have HTY : Hid (Txts Y (some ⟨gB, 0, none⟩) gB xs0) := HTC.out.below HYB.out
  clear hY hb4 ht2 hb2e hg2 HV1b HTB
  go_wp2_with fail
  rw [← HY.out, ← HE2.out]
  refine (eqObj_same Y t a2 a1 g2 g1 n k2 k1 vs HLN.out (by have := HLN.out; omega) HV2.out.tx HV1y.out.tx).mono ?_
  rintro e w5 ⟨rfl, hb5⟩
  have HV1d : Hid (OVar b1 t a1 g1 n k1 vs w5) := HV1y.out.below hb5
  have HV2d : Hid (OVar b2 t a2 g2 n k2 vs w5) := HV2.out.below hb5
  have HTD : Hid (Txts w5 (some ⟨gB, 0, none⟩) gB xs0) := HTY.out.below hb5
  have HW5 : Hid (Below w.heap.size w w5) := HWY.out.trans (hb5.mono HWY.out.size)
  clear hb5 m0 m1 hlt HV1y HV2 HTY
  go_wp2_with fail
  refine (toStringS_any w5 a0 c0 xs0 hn (HLW.out _ HW5.out)).mono ?_
  rintro e w6 ⟨gC, rfl, hgC, hgC2, hlC, hrC, hb6⟩
  have HV1e : Hid (OVar b1 t a1 g1 n k1 vs w6) := HV1d.out.below hb6
  have HV2e : Hid (OVar b2 t a2 g2 n k2 vs w6) := HV2d.out.below hb6
  have HTE : Hid (Txts w6 (some ⟨gB, 0, none⟩) gB xs0) := HTD.out.below hb6
  have HLC : Hid (Strs w6 (some ⟨gC, 0, none⟩) xs0) := hlC
  have HW6 : Hid (Below w.heap.size w w6) := HW5.out.trans (hb6.mono HW5.out.size)
  clear hb6 hgC hgC2 hlC hrC HV1d HV2d HTD
  go_wp2_with fail
  refine (eqStringS_same w6 _ _ _ _ xs0 hn HTE.out.strs HLC.out).mono ?_
  rintro e w7 ⟨rfl, hb7⟩
  have HV1f : Hid (OVar b1 t a1 g1 n k1 vs w7) := HV1e.out.below hb7
  have HV2f : Hid (OVar b2 t a2 g2 n k2 vs w7) := HV2e.out.below hb7
  have HTF : Hid (Txts w7 (some ⟨gB, 0, none⟩) gB xs0) := HTE.out.below hb7
  have HW7 : Hid (Below w.heap.size w w7) := HW6.out.trans (hb7.mono HW6.out.size)
  clear hb7 HV1e HV2e HTE HLC
  go_wp2_with fail
  refine (markStringS_any w7 _ gB xs0.length _ xs0 1 rfl HTF.out hn (by omega) (by omega)).mono ?_
  rintro e w8 ⟨rfl, hg8, ht8⟩
  have HV1g : Hid (OVar b1 t a1 g1 n k1 vs w8) := HV1f.out.grown hg8 (by have := HGB.out; omega) (fun h => by have := HG1.out h; have := HGB.out; omega)
  have HV2g : Hid (OVar b2 t a2 g2 n k2 vs w8) := HV2f.out.grown hg8 (by have := HGB.out; have := HO2.out; omega) (fun h => by have := HGB.out; have := HO2.out; omega)
  have HW8 : Hid (Below w.heap.size w w8) := HW7.out.trans (below_of_grown hg8 HW7.out.size HGB.out.2.2)
  clear hg8 ht8 HV1f HV2f HTF
  obtain ⟨kx, hkx⟩ : ∃ kx : Int, kx = ((1 + xs0.length : Nat) : Int) := ⟨_, rfl⟩
  rw [← hkx]
  have hkx0 : ¬ kx < 0 := by omega
  clear hkx
  have m0 := HV1g.out.c0
  have m1 := HV1g.out.c1
  have n0 := HV2g.out.c0
  have n1 := HV2g.out.c1
  go_wp2_with fail
  refine (eqObj_same w8 t a2 a1 g2 g1 n k2 k1 vs HLN.out (by have := HLN.out; omega) HV2g.out.tx HV1g.out.tx).mono ?_
  rintro e w9 ⟨rfl, hb9⟩
  have HV1h : Hid (OVar b1 t a1 g1 n k1 vs w9) := HV1g.out.below hb9
  have HV2h : Hid (OVar b2 t a2 g2 n k2 vs w9) := HV2g.out.below hb9
  have HW9 : Hid (Below w.heap.size w w9) := HW8.out.trans (hb9.mono HW8.out.size)
  clear hb9 m0 m1 n0 n1 HV1g HV2g
  have n0 := HV2h.out.c0
  have n1 := HV2h.out.c1
  go_wp2_with fail
  obtain ⟨rr, htr, hBr, hne⟩ := HV2h.out.block w.heap.size (by have := HO2.out; have := HW3.out.size; omega) HW9.out.size
  have hr1 : b1 ≠ rr := hne b1 HV1h.out.lt (fun _ => by have := HGB.out; have := HO2.out; omega)
  have hr2 : b2 ≠ rr := hne b2 HV2h.out.lt (fun h => by have := HG2.out h; omega)
  have hr3 : 0 < vs.length → g1 ≠ rr := fun h => hne g1 (HV1h.out.tx.lt h) (fun _ => by have := HG1.out h; have := HGB.out; have := HO2.out; omega)
  refine (markObj_any w9 t a2 rr n k2 vs 1 HLN.out htr hvl (by omega)).mono ?_
  rintro e w10 ⟨rfl, hg10, ht10⟩
  have HV2i : Hid (OVar b2 t a2 rr n k2 (marks 1 n) w10) := HV2h.out.marked hg10 hr2 (marks_len 1 n) ht10
  have HV1i : Hid (OVar b1 t a1 g1 n k1 vs w10) := HV1h.out.grown hg10 hr1 hr3
  have HW10 : Hid (Below w.heap.size w w10) := HW9.out.trans (below_of_grown hg10 HW9.out.size hBr)
  clear hg10 ht10 htr hBr hne hr1 hr2 hr3 n0 n1 HV2h HV1h
  obtain ⟨km, hkm⟩ : ∃ km : Int, km = ((1 + n : Nat) : Int) := ⟨_, rfl⟩
  rw [← hkm]
  have HKM : Hid (km = ((1 + n : Nat) : Int)) := hkm
  have hk0 : ¬ km < 0 := by omega
  have hkk : (km != km) = false := by simp
  clear hkm
  have n0 := HV2i.out.c0
  have n1 := HV2i.out.c1
  go_wp2_with fail
  refine (heldObj_any w10 t a2 rr n k2 1 HV2i.out.tx hvl (by omega)).mono ?_
  rintro e w11 ⟨rfl, hb11⟩
  rw [← HKM.out]
  have HV2j : Hid (OVar b2 t a2 rr n k2 (marks 1 n) w11) := HV2i.out.below hb11
  have HV1j : Hid (OVar b1 t a1 g1 n k1 vs w11) := HV1i.out.below hb11
  have HW11 : Hid (Below w.heap.size w w11) := HW10.out.trans (hb11.mono HW10.out.size)
  clear hb11 n0 n1 HV2i HV1i
  go_wp2_with fail
  refine (toStringS_any w11 a0 c0 xs0 hn (HLW.out _ HW11.out)).mono ?_
  rintro e w12 ⟨gD, rfl, hgD, hgD2, hlD, hrD, hb12⟩
  have HV2k : Hid (OVar b2 t a2 rr n k2 (marks 1 n) w12) := HV2j.out.below hb12
  have HV1k : Hid (OVar b1 t a1 g1 n k1 vs w12) := HV1j.out.below hb12
  have HLD : Hid (Strs w12 (some ⟨gD, 0, none⟩) xs0) := hlD
  have HW12 : Hid (Below w.heap.size w w12) := HW11.out.trans (hb12.mono HW11.out.size)
  clear hb12 hgD hgD2 hlD hrD HV2j HV1j
  go_wp2_with fail
  refine (HI.out w12 _ _ HLD.out).mono ?_
  rintro e w13 ⟨a3, g3, k3, rfl, hg3, ht3, hb13⟩
  have HV2l : Hid (OVar b2 t a2 rr n k2 (marks 1 n) w13) := HV2k.out.below hb13
  have HV1l : Hid (OVar b1 t a1 g1 n k1 vs w13) := HV1k.out.below hb13
  have HW13 : Hid (Below w.heap.size w w13) := HW12.out.trans (hb13.mono HW12.out.size)
  have m0 := HV1l.out.c0
  have m1 := HV1l.out.c1
  have hlt := HV1l.out.lt
  obtain ⟨Z, hZ⟩ : ∃ Z, Z = w13.alloc (.cells #[.int .i64 t, .slice a3 n k3] 27) := ⟨_, rfl⟩
  have HZ : Hid (Z = w13.alloc (.cells #[.int .i64 t, .slice a3 n k3] 27)) := hZ
  have HZB : Hid (Below w13.heap.size w13 Z) := by rw [hZ]; exact (Below.refl _ _).alloc (Nat.le_refl _) _
  have HV3 : Hid (OVar w13.heap.size t a3 g3 n k3 vs Z) := by rw [hZ]; exact OVar.start w13 t a3 g3 n k3 vs _ HLN.out ht3
  have HV1m : Hid (OVar b1 t a1 g1 n k1 vs Z) := HV1l.out.below HZB.out
  have HV2m : Hid (OVar b2 t a2 rr n k2 (marks 1 n) Z) := HV2l.out.below HZB.out
  have HWZ : Hid (Below w.heap.size w Z) := HW13.out.trans (HZB.out.mono HW13.out.size)
  clear hZ hb13 ht3 hg3 HV2k HV1k
  go_wp2_with fail
  rw [← HZ.out]
  refine (eqObj_same Z t a3 a1 g3 g1 n k3 k1 vs HLN.out (by have := HLN.out; omega) HV3.out.tx HV1m.out.tx).mono ?_
  rintro e w14 ⟨rfl, hb14⟩
  have HV2n : Hid (OVar b2 t a2 rr n k2 (marks 1 n) w14) := HV2m.out.below hb14
  have HW14 : Hid (Below w.heap.size w w14) := HWZ.out.trans (hb14.mono HWZ.out.size)
  clear hb14 m0 m1 hlt HV1m HV2m HV3 HV1l HV2l
  have n0 := HV2n.out.c0
  have n1 := HV2n.out.c1
  go_wp2_with fail
  refine (heldObj_any w14 t a2 rr n k2 1 HV2n.out.tx hvl (by omega)).mono ?_
  rintro e w15 ⟨rfl, hb15⟩
  rw [← HKM.out]
  have HW15 : Hid (Below w.heap.size w w15) := HW14.out.trans (hb15.mono HW14.out.size)
  clear hb15 n0 n1
  go_wp2
  go_ret
  exact ⟨rfl, HW15.out⟩

set_option maxRecDepth 100000 in
theorem lifted (os : Os) (started : os.Started) (H : Type) (enc : TypeId × Value → H) :
    ReturnsInHanded {} Try.checked os 7 .any (Rows.fnExactReadObjectSpec.pre6 enc Try.prog Try.f7 Rows.fnExactReadObjectRow.domain false) (Rows.fnExactReadObjectSpec.post enc Try.prog Try.f7 false true false false) := by
  refine returnsInHanded_of_change (C := Try.checked) own started (by kernel_rfl) Try.func7
    (ChangeSpec.witness6 (enc := enc) (C := Try.checked) false ⟨#[], #[.slice none 0 0, .string ByteArray.empty], []⟩ 8 (by kernel_rfl) (by kernel_rfl) (by kernel_rfl) (by kernel_rfl)) ?_
  intro W base args ds gs before hval0 hW hcnd _
  have hval : ∀ (j : Nat) t v, Try.f7.params[j]? = some t → args[j]? = some v → Value.okWide Try.prog W .any base t v := hval0
  have hW' := hW
  obtain ⟨p, q, hA0, hV, rfl, hfz, hnd⟩ := hW
  have hA : DataW.TrodAll enc Try.prog W 0 (fun _ => true) true Try.f7.params.toList args.toList ds p := hA0
  rw [Try.params7] at hA hval
  obtain ⟨v0, vs_0, d0, ds0, p0, q0, hargs, rfl, rfl, h0, r0⟩ := trodAll_cons hA
  obtain ⟨v1, vs_1, d1, ds1, p1, q1, rfl, rfl, rfl, h1, r1⟩ := trodAll_cons r0
  obtain ⟨rfl, rfl, rfl⟩ := trodAll_nil r1
  obtain rfl : args = #[v0, v1] := by cases args; simp_all
  obtain ⟨rfl, rfl⟩ := trodVars_none hV
  have k_0 := h0
  have lt_0 : ∀ x ∈ p0, x.block < W.heap.size := by obtain ⟨m, hm⟩ := k_0; exact DataW.trod_lt m _ _ _ hm
  obtain ⟨a0, c0, xs0, rfl, hl0, hm0, hz0⟩ := strs_of (hval 0 24 v0 rfl rfl) h0
  obtain ⟨s1, rfl, rfl, rfl, hs1⟩ := Go.ChangeMaps.open_string Try.underlying9 (hval 1 9 v1 rfl rfl) h1
  clear hA0 hval0
  refine (walk a0 c0 xs0 s1 W hl0 hm0 hz0 hs1).mono fun e W' ⟨he, bel⟩ => ?_
  subst he
  exact ⟨_, rfl, _, _, _, [], _, [], hW', trodAll_mk1 (shut_bool Try.underlying4 _), (trodAll_cons_mk (Below.trod laidOut (by kernel_rfl) (of_decide_eq_true (by kernel_rfl)) k_0 bel lt_0) (trodAll_cons_mk (Go.ChangeMaps.shut_string Try.underlying9 hs1) trodAll_mk0)), rfl, bel.frame _, fun h => by cases h⟩

theorem over : Rows.fnExactReadObjectRow.holds Try.pinned (OpenSpec.ofChange Rows.fnExactReadObjectSpec) :=
  OpenClaim.holds_of_wide 7 Try.f7 rfl rfl rfl rfl rfl rfl rfl ⟨rfl, rfl, rfl, rfl, rfl⟩ rfl rfl rfl rfl rfl (by kernel_rfl) Try.func7 (by kernel_rfl)
    (of_decide_eq_true (by kernel_rfl)) (by unfold Func.isWrapper; first | (rw [if_pos (by decide +kernel)]; kernel_rfl) | (rw [if_neg (by decide +kernel)]; exact ⟨rfl, rfl⟩))
    (fun os started H enc _ => lifted os started H enc)

theorem proved : Rows.FnExactReadObjectSaid := over
#print axioms proved
end Go.Proofs.Ytodbdpgjoofdfaa.fnExactReadObject
