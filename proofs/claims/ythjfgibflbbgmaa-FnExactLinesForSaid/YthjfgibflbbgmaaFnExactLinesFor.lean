/-
  FnExactLinesFor: for every slice of texts and every graph the law that holds the program's LinesFor against the specification's LinesFor returns true, and the arguments read as before; no condition.
-/
import Derived.Test.YthjfgibflbbgmaaGr4
import Derived.Test.YthjfgibflbbgmaaGsLines
import Derived.Deep.RegionHeld3
import Derived.ProofKit
import Derived.OpenShut
import Derived.ShutString
import Derived.ChangeOld
import Derived.Below
import Derived.Lib.SmallJoins
namespace Go.Proofs.Ythjfgibflbbgmaa.fnExactLinesFor
open Go.ChangeShapes Go.WideShapes Go.ChangeAt Go.RowKit
open kinds ints obj gr gs

theorem own : ownKnob Try.prog.godebug = none := by kernel_rfl
theorem laidOut : laidOutB Try.prog = true := by kernel_rfl


set_option linter.unusedVariables false in
set_option maxHeartbeats 4000000 in
set_option maxRecDepth 20000 in
theorem walk (a0 : Option Addr) (c0 : Nat) (xs0 : List ByteArray) (b1 : Option Addr) (vc1 : Nat) (rs1 : List Int) (ga1 : Option Addr) (gc1 : Nat) (ns1 : List Nd) (w : World) (hl0 : Strs w a0 xs0) (hm0 : xs0.length ≤ maxLen) (hz0 : ∀ i (hi : i < xs0.length), xs0[i].size ≤ maxLen) (hk1 : Nums w b1 rs1) (hn1 : rs1.length ≤ maxLen) (hw1 : ∀ x ∈ rs1, (Lit.int .i64 x).wf = true) (hg1 : Nodes w ga1 ns1) (hm1 : ns1.length ≤ maxLen) (ho1 : ∀ x ∈ ns1, NdOk x) :
    Calls Try.prog 6 #[.slice a0 xs0.length c0, .agg #[.slice b1 rs1.length vc1, .slice ga1 ns1.length gc1]] w fun e w' => e = .returned (.bool true) ∧ Below w.heap.size w w' := by
  have HL : Hid (Strs w a0 xs0) := hl0
  have HNU : Hid (Nums w b1 rs1) := hk1
  have HND : Hid (Nodes w ga1 ns1) := hg1
  obtain ⟨W, hW⟩ : ∃ W, W = w.alloc (.cells #[.slice b1 rs1.length vc1, .slice ga1 ns1.length gc1] 26) := ⟨_, rfl⟩
  have HB0 : Hid (Below w.heap.size w W) := by
    have h1 : Below w.heap.size w W := by rw [hW]; exact (Below.refl _ _).alloc (Nat.le_refl _) _
    exact h1
  have hsz : w.heap.size < W.heap.size := by rw [hW]; simp
  have HK : Hid (∀ w', Below W.heap.size W w' → w'.cell? ⟨w.heap.size, 0, none⟩ = some (.slice b1 rs1.length vc1) ∧ w'.cell? ⟨w.heap.size, 1, none⟩ = some (.slice ga1 ns1.length gc1)) := fun w' h =>
    ⟨by rw [h.cell (p := ⟨w.heap.size, 0, none⟩) hsz, hW, World.cell?_alloc_new]; rfl, by rw [h.cell (p := ⟨w.heap.size, 1, none⟩) hsz, hW, World.cell?_alloc_new]; rfl⟩
  have HW : Hid (W = w.alloc (.cells #[.slice b1 rs1.length vc1, .slice ga1 ns1.length gc1] 26)) := hW
  have HLW : Hid (∀ w', Below W.heap.size W w' → Strs w' a0 xs0) := fun w' h => (HL.out.below HB0.out).below h
  have HNW : Hid (∀ w', Below W.heap.size W w' → Nums w' b1 rs1 ∧ Nodes w' ga1 ns1) := fun w' h => ⟨(HNU.out.below HB0.out).below h, (HND.out.below HB0.out).below h⟩
  have HEnd : Hid (∀ w', Below W.heap.size W w' → Below w.heap.size w w') := fun w' h => HB0.out.trans (h.mono HB0.out.size)
  have HSZ : Hid (∀ w, Strs w a0 xs0 → Calls _ _ _ w _) := fun w h => szStringS_any w a0 c0 xs0 1048576 (by omega) (by omega) hm0 h hz0
  have HSO : Hid (∀ (left : Int) w, Nodes w ga1 ns1 → 0 ≤ left → left ≤ 1048576 → Calls _ _ _ w _) := fun left w q q1 q2 => szGraph_any w b1 vc1 rs1 ga1 gc1 ns1 left q1 q2 hn1 hm1 ho1 q
  clear hW hl0 hk1 hz0 hw1 hm0 hn1 hg1 hm1 ho1
  go_enter Try.func6, Try.ntmps6
  go_wp2_with fail
  rw [← HW.out]
  refine (HSZ.out W (HLW.out W (Below.refl _ _))).mono ?_
  rintro e w1 ⟨r, rfl, hr0, hr1, hr2, hw⟩
  have HB1 : Hid (Below W.heap.size W w1) := by first | exact hw | (subst hw; exact Below.refl _ _)
  have HR1 : Hid (0 ≤ r → xs0.length ≤ 1048576 ∧ ∀ i (hi : i < xs0.length), xs0[i].size ≤ 1048576) := hr2
  clear hr2 hw
  by_cases hneg : r < 0
  · go_wp2
    go_ret
    exact ⟨rfl, HEnd.out _ HB1.out⟩
  obtain ⟨hn, hz⟩ := HR1.out (by omega)
  have HZ : Hid (∀ i (hi : i < xs0.length), xs0[i].size ≤ 1048576) := hz
  clear hz HR1
  obtain ⟨m0, m1⟩ := HK.out w1 HB1.out
  go_wp2_with fail
  refine (HSO.out r w1 (HNW.out w1 HB1.out).2 (by omega) hr1).mono ?_
  rintro e w2 ⟨r2, rfl, hs0, hs1, hs2, hb2⟩
  have HB2 : Hid (Below W.heap.size W w2) := HB1.out.trans (hb2.mono HB1.out.size)
  have HR2 : Hid (0 ≤ r2 → rs1.length ≤ 1048576 ∧ ns1.length ≤ 1048576 ∧ ∀ x ∈ ns1, x.2.length ≤ 1048576) := hs2
  clear hs2 hb2 m0 m1
  by_cases hneg2 : r2 < 0
  · go_wp2
    go_ret
    exact ⟨rfl, HEnd.out _ HB2.out⟩
  obtain ⟨hnr, hnn, hnz⟩ := HR2.out (by omega)
  have HNZ : Hid (∀ x ∈ ns1, x.2.length ≤ 1048576) := hnz
  have HTG : Hid (∀ w', Below W.heap.size W w' → Calls Try.prog 14 #[.agg #[.slice b1 rs1.length vc1, .slice ga1 ns1.length gc1]] w' fun e w'' => ∃ gr gn : Nat, e = .returned (.agg #[.slice (some ⟨gr, 0, none⟩) rs1.length rs1.length, .slice (some ⟨gn, 0, none⟩) ns1.length ns1.length]) ∧ Ints w'' (some ⟨gr, 0, none⟩) gr rs1 ∧ Copies w'' gn ns1 ∧ Below w'.heap.size w' w'') := fun w' h => toGraph_any w' b1 vc1 rs1 ga1 gc1 ns1 hnr hnn HNZ.out (HNW.out w' h).1 (HNW.out w' h).2
  have HS : Hid (∀ (w : World) (a : Option Addr) (cap : Nat) (b : Option Addr) (vc : Nat) (c : Option Addr) (cc : Nat), Strs w a xs0 → Nums w b rs1 → Nodes w c ns1 → Calls _ _ _ w _) := fun w a cap b vc c cc q1 q2 q3 => spec_lines w a cap xs0 b vc rs1 c cc ns1 hn HZ.out hnr hnn q1 q2 q3
  have HI : Hid (∀ (w : World) (a : Option Addr) (cap : Nat) (b : Option Addr) (vc : Nat) (c : Option Addr) (cc : Nat), Strs w a xs0 → Nums w b rs1 → Nodes w c ns1 → Calls _ _ _ w _) := fun w a cap b vc c cc q1 q2 q3 => impl_lines w a cap xs0 b vc rs1 c cc ns1 hn HZ.out hnr hnn q1 q2 q3
  generalize linesS xs0 rs1 ns1 = ok at HS HI
  have hbb : (ok != ok) = false := by simp
  clear hr0 hr1 hs0 hs1 hneg HR2 hnz
  have hcur : Below W.heap.size W w2.drew := HB2.out.drew
  obtain ⟨m0, m1⟩ := HK.out w2 HB2.out
  go_wp2_with fail
  go_region_held3 (fun w' => w'.cell? ⟨w.heap.size, 0, none⟩ = some (.slice b1 rs1.length vc1) ∧ w'.cell? ⟨w.heap.size, 1, none⟩ = some (.slice ga1 ns1.length gc1)) (first | exact HK.out _ hcur)
    (first | (go_at_call 13; refine (toStringS_any _ a0 c0 xs0 hn (HLW.out _ hcur)).mono ?_; rintro e wS ⟨gS, rfl, hgS, hgS2, hlS, hrS, hbS⟩; have KS : Hid (∀ w', Below wS.heap.size wS w' → Strs w' (some ⟨gS, 0, none⟩) xs0) := (fun w' h => hlS.below h); have hcu2 : Below W.heap.size W wS := hcur.trans (hbS.mono hcur.size); clear hcur hgS hgS2 hlS hrS; have hcur := hcu2; clear hcu2) | (go_at_call 14; refine (HTG.out _ hcur).mono ?_; rintro e wO ⟨gO, gP, rfl, hiO, hcO, hbO⟩; have KO : Hid (∀ w', Below wO.heap.size wO w' → Nums w' (some ⟨gO, 0, none⟩) rs1 ∧ Nodes w' (some ⟨gP, 0, none⟩) ns1) := (fun w' h => ⟨(hiO.below h).nums, (hcO.below h).nodes⟩); have hcu2 : Below W.heap.size W wO := hcur.trans (hbO.mono hcur.size); clear hcur hiO hcO; have hcur := hcu2; clear hcu2) | (go_at_call 28; (first | (refine (HS.out wO _ _ _ _ _ _ (KS.out wO hbO) (KO.out wO (Below.refl _ _)).1 (KO.out wO (Below.refl _ _)).2).mono ?_) | (refine (HS.out wS _ _ _ _ _ _ (KS.out wS (Below.refl _ _)) (KO.out wS hbS).1 (KO.out wS hbS).2).mono ?_)); rintro e w3 ⟨rfl, hb3⟩; have hcu2 : Below W.heap.size W w3 := hcur.trans (hb3.mono hcur.size); clear hcur hb3; have hcur := hcu2; clear hcu2))
  all_goals
    have HB3 : Hid (Below W.heap.size W w3) := hcur
    clear hcur m0 m1 KS KO hbS hbO
    go_wp2_with fail
    refine (toStringS_any w3 a0 c0 xs0 hn (HLW.out _ HB3.out)).mono ?_
    rintro e w4 ⟨g4, rfl, hg4, hg42, hl4, hr4, hb4⟩
    have HB4 : Hid (Below W.heap.size W w4) := HB3.out.trans (hb4.mono HB3.out.size)
    have HL4 : Hid (Strs w4 (some ⟨g4, 0, none⟩) xs0) := hl4
    clear hg4 hg42 hl4 hr4 hb4
    obtain ⟨m0, m1⟩ := HK.out w4 HB4.out
    go_wp2_with fail
    refine (HTG.out w4 HB4.out).mono ?_
    rintro e w5 ⟨g5, h5, rfl, hi5, hc5, hb5⟩
    have HB5 : Hid (Below W.heap.size W w5) := HB4.out.trans (hb5.mono HB4.out.size)
    have HL5 : Hid (Strs w5 (some ⟨g4, 0, none⟩) xs0) := HL4.out.below hb5
    obtain ⟨X, hX⟩ : ∃ X, X = w5.alloc (.cells #[.slice (some ⟨g5, 0, none⟩) rs1.length rs1.length, .slice (some ⟨h5, 0, none⟩) ns1.length ns1.length] 33) := ⟨_, rfl⟩
    have hX5 : Below w5.heap.size w5 X := by rw [hX]; exact (Below.refl _ _).alloc (Nat.le_refl _) _
    have HBX : Hid (Below W.heap.size W X) := HB5.out.trans (hX5.mono HB5.out.size)
    have HLX : Hid (∀ w', Below X.heap.size X w' → Strs w' (some ⟨g4, 0, none⟩) xs0) := fun w' h => (HL5.out.below hX5).below h
    have HIX : Hid (∀ w', Below X.heap.size X w' → Ints w' (some ⟨g5, 0, none⟩) g5 rs1 ∧ Copies w' h5 ns1) := fun w' h => ⟨(hi5.below hX5).below h, (hc5.below hX5).below h⟩
    have hszX : w5.heap.size < X.heap.size := by rw [hX]; simp
    have HKX : Hid (∀ w', Below X.heap.size X w' → w'.cell? ⟨w5.heap.size, 0, none⟩ = some (.slice (some ⟨g5, 0, none⟩) rs1.length rs1.length) ∧ w'.cell? ⟨w5.heap.size, 1, none⟩ = some (.slice (some ⟨h5, 0, none⟩) ns1.length ns1.length)) := fun w' h =>
      ⟨by rw [h.cell (p := ⟨w5.heap.size, 0, none⟩) hszX, hX, World.cell?_alloc_new]; rfl, by rw [h.cell (p := ⟨w5.heap.size, 1, none⟩) hszX, hX, World.cell?_alloc_new]; rfl⟩
    have HX : Hid (X = w5.alloc (.cells #[.slice (some ⟨g5, 0, none⟩) rs1.length rs1.length, .slice (some ⟨h5, 0, none⟩) ns1.length ns1.length] 33)) := hX
    clear hX hX5 hi5 hc5 hb5 m0 m1
    go_wp2_with fail
    rw [← HX.out]
    refine (HI.out X _ _ _ _ _ _ (HLX.out X (Below.refl _ _)) (HIX.out X (Below.refl _ _)).1.nums (HIX.out X (Below.refl _ _)).2.nodes).mono ?_
    rintro e w6 ⟨rfl, hb6⟩
    have HX6 : Hid (Below X.heap.size X w6) := hb6
    clear hb6
    go_wp2_with fail
    refine (toStringS_any w6 a0 c0 xs0 hn (HLW.out _ (HBX.out.trans (HX6.out.mono HBX.out.size)))).mono ?_
    rintro e w7 ⟨g7, rfl, hg7, hg72, hl7, hr7, hb7⟩
    have HX7 : Hid (Below X.heap.size X w7) := HX6.out.trans (hb7.mono HX6.out.size)
    have HL7 : Hid (Strs w7 (some ⟨g7, 0, none⟩) xs0) := hl7
    clear hg7 hg72 hl7 hr7 hb7
    go_wp2_with fail
    refine (eqStringS_same w7 _ _ _ _ xs0 hn (HLX.out w7 HX7.out) HL7.out).mono ?_
    rintro e w8 ⟨rfl, hb8⟩
    have HX8 : Hid (Below X.heap.size X w8) := by first | exact HX7.out.trans (hb8.mono HX7.out.size) | (subst hb8; exact HX7.out)
    clear hb8 HL7
    have HB8 : Hid (Below W.heap.size W w8) := HBX.out.trans (HX8.out.mono HBX.out.size)
    obtain ⟨m0, m1⟩ := HK.out w8 HB8.out
    obtain ⟨n0, n1⟩ := HKX.out w8 HX8.out
    have hcur : Below X.heap.size X w8.drew := HX8.out.drew
    have HCK : Hid (∀ w', Below X.heap.size X w' → w'.cell? ⟨w.heap.size, 0, none⟩ = some (.slice b1 rs1.length vc1) ∧ w'.cell? ⟨w.heap.size, 1, none⟩ = some (.slice ga1 ns1.length gc1) ∧ w'.cell? ⟨w5.heap.size, 0, none⟩ = some (.slice (some ⟨g5, 0, none⟩) rs1.length rs1.length) ∧ w'.cell? ⟨w5.heap.size, 1, none⟩ = some (.slice (some ⟨h5, 0, none⟩) ns1.length ns1.length)) := fun w' h =>
      ⟨(HK.out w' (HBX.out.trans (h.mono HBX.out.size))).1, (HK.out w' (HBX.out.trans (h.mono HBX.out.size))).2, (HKX.out w' h).1, (HKX.out w' h).2⟩
    go_wp2_with fail
    go_region_held3 (fun w' => w'.cell? ⟨w.heap.size, 0, none⟩ = some (.slice b1 rs1.length vc1) ∧ w'.cell? ⟨w.heap.size, 1, none⟩ = some (.slice ga1 ns1.length gc1) ∧ w'.cell? ⟨w5.heap.size, 0, none⟩ = some (.slice (some ⟨g5, 0, none⟩) rs1.length rs1.length) ∧ w'.cell? ⟨w5.heap.size, 1, none⟩ = some (.slice (some ⟨h5, 0, none⟩) ns1.length ns1.length)) (first | exact HCK.out _ hcur)
      (first | (go_at_call 14; refine (HTG.out _ (HBX.out.trans (hcur.mono HBX.out.size))).mono ?_; rintro e w9 ⟨g9, h9, rfl, hi9, hc9, hb9⟩; have hcu2 : Below X.heap.size X w9 := hcur.trans (hb9.mono hcur.size); clear hcur hb9; have hcur := hcu2; clear hcu2) | (go_at_call 18; refine (eqGraph_same w9 _ _ _ _ _ _ _ _ _ _ rs1 ns1 rfl rfl hnr hnn HNZ.out (HIX.out w9 hcur).1 hi9 (HIX.out w9 hcur).2 hc9).mono ?_; rintro e wT ⟨rfl, hbT⟩; have hcu2 : Below X.heap.size X wT := hcur.trans (hbT.mono hcur.size); clear hcur hbT hi9 hc9; have hcur := hcu2; clear hcu2))
    all_goals
      have HXT : Hid (Below X.heap.size X wT) := hcur
      clear hcur m0 m1 n0 n1
      go_wp2
      go_ret
      exact ⟨rfl, HEnd.out _ (HBX.out.trans (HXT.out.mono HBX.out.size))⟩

set_option maxRecDepth 100000 in
theorem lifted (os : Os) (started : os.Started) (H : Type) (enc : TypeId × Value → H) :
    ReturnsInHanded {} Try.checked os 6 .any (Rows.fnExactLinesForSpec.pre6 enc Try.prog Try.f6 Rows.fnExactLinesForRow.domain false) (Rows.fnExactLinesForSpec.post enc Try.prog Try.f6 false true false false) := by
  refine returnsInHanded_of_change (C := Try.checked) own started (by kernel_rfl) Try.func6
    (ChangeSpec.witness6 (enc := enc) (C := Try.checked) false ⟨#[], #[.slice none 0 0, .agg #[.slice none 0 0, .slice none 0 0]], []⟩ 8 (by kernel_rfl) (by kernel_rfl) (by kernel_rfl) (by kernel_rfl)) ?_
  intro W base args ds gs before hval0 hW hcnd _
  have hval : ∀ (j : Nat) t v, Try.f6.params[j]? = some t → args[j]? = some v → Value.okWide Try.prog W .any base t v := hval0
  have hW' := hW
  obtain ⟨p, q, hA0, hV, rfl, hfz, hnd⟩ := hW
  have hA : DataW.TrodAll enc Try.prog W 0 (fun _ => true) true Try.f6.params.toList args.toList ds p := hA0
  rw [Try.params6] at hA hval
  obtain ⟨v0, vs_0, d0, ds0, p0, q0, hargs, rfl, rfl, h0, r0⟩ := trodAll_cons hA
  obtain ⟨v1, vs_1, d1, ds1, p1, q1, rfl, rfl, rfl, h1, r1⟩ := trodAll_cons r0
  obtain ⟨rfl, rfl, rfl⟩ := trodAll_nil r1
  obtain rfl : args = #[v0, v1] := by cases args; simp_all
  obtain ⟨rfl, rfl⟩ := trodVars_none hV
  have k_0 := h0
  have lt_0 : ∀ x ∈ p0, x.block < W.heap.size := by obtain ⟨m, hm⟩ := k_0; exact DataW.trod_lt m _ _ _ hm
  obtain ⟨a0, c0, xs0, rfl, hl0, hm0, hz0⟩ := strs_of (hval 0 22 v0 rfl rfl) h0
  have k_1 := h1
  have lt_1 : ∀ x ∈ p1, x.block < W.heap.size := by obtain ⟨m, hm⟩ := k_1; exact DataW.trod_lt m _ _ _ hm
  obtain ⟨b1, vc1, rs1, ga1, gc1, ns1, rfl, hk1, hn1, hw1, hg1, hm1, ho1⟩ := graph_of (hval 1 26 v1 rfl rfl) h1
  clear hA0 hval0
  refine (walk a0 c0 xs0 b1 vc1 rs1 ga1 gc1 ns1 W hl0 hm0 hz0 hk1 hn1 hw1 hg1 hm1 ho1).mono fun e W' ⟨he, bel⟩ => ?_
  subst he
  exact ⟨_, rfl, _, _, _, [], _, [], hW', trodAll_mk1 (shut_bool Try.underlying4 _), (trodAll_cons_mk (Below.trod laidOut (by kernel_rfl) (of_decide_eq_true (by kernel_rfl)) k_0 bel lt_0) (trodAll_cons_mk (Below.trod laidOut (by kernel_rfl) (of_decide_eq_true (by kernel_rfl)) k_1 bel lt_1) trodAll_mk0)), rfl, bel.frame _, fun h => by cases h⟩

theorem over : Rows.fnExactLinesForRow.holds Try.pinned (OpenSpec.ofChange Rows.fnExactLinesForSpec) :=
  OpenClaim.holds_of_wide 6 Try.f6 rfl rfl rfl rfl rfl rfl rfl ⟨rfl, rfl, rfl, rfl, rfl⟩ rfl rfl rfl rfl rfl (by kernel_rfl) Try.func6 (by kernel_rfl)
    (of_decide_eq_true (by kernel_rfl)) (by unfold Func.isWrapper; first | (rw [if_pos (by decide +kernel)]; kernel_rfl) | (rw [if_neg (by decide +kernel)]; exact ⟨rfl, rfl⟩))
    (fun os started H enc _ => lifted os started H enc)

theorem proved : Rows.FnExactLinesForSaid := over
#print axioms proved
end Go.Proofs.Ythjfgibflbbgmaa.fnExactLinesFor
