/-
  FnExactConfigOk: for every config the law that holds the program's ConfigOk against the specification's ConfigOk returns true, and the config reads as before; no condition.
-/
import Derived.Test.YtnghhfdbibbpcagConfOpen
import Derived.Test.YtnghhfdbibbpcagConf
import Derived.Deep.RegionWith
import Derived.ProofKit
import Derived.OpenShut
import Derived.ShutString
import Derived.ChangeOld
import Derived.Below
namespace Go.Proofs.Ytnghhfdbibbpcag.fnExactConfigOk
open Go.ChangeShapes Go.WideShapes Go.ChangeAt Go.RowKit
open kinds

theorem own : ownKnob Try.prog.godebug = none := by kernel_rfl
theorem laidOut : laidOutB Try.prog = true := by kernel_rfl


set_option linter.unusedVariables false in
set_option maxHeartbeats 4000000 in
theorem walk (n1 n2 n3 : Int) (a : Option Addr) (cap : Nat) (xs : List ByteArray) (w : World) (hn1 : (Lit.int .i64 n1).wf = true) (hn2 : (Lit.int .i64 n2).wf = true) (hn3 : (Lit.int .i64 n3).wf = true) (hl : Strs w a xs) (hm : xs.length ≤ maxLen) (hz : ∀ i (hi : i < xs.length), xs[i].size ≤ maxLen) :
    Calls Try.prog 3 #[.agg #[.int .i64 n1, .int .i64 n2, .int .i64 n3, .slice a xs.length cap]] w fun e w' => e = .returned (.bool true) ∧ Below w.heap.size w w' := by
  have HL : Hid (Strs w a xs) := hl
  obtain ⟨W, hW⟩ : ∃ W, W = w.alloc (.cells #[.int .i64 n1, .int .i64 n2, .int .i64 n3, .slice a xs.length cap] 24) := ⟨_, rfl⟩
  have HB0 : Hid (Below w.heap.size w W) := by
    have h1 : Below w.heap.size w W := by rw [hW]; exact (Below.refl _ _).alloc (Nat.le_refl _) _
    exact h1
  have hsz : w.heap.size < W.heap.size := by rw [hW]; simp
  have HK : Hid (∀ w', Below W.heap.size W w' → w'.cell? ⟨w.heap.size, 0, none⟩ = some (.int .i64 n1) ∧ w'.cell? ⟨w.heap.size, 1, none⟩ = some (.int .i64 n2) ∧ w'.cell? ⟨w.heap.size, 2, none⟩ = some (.int .i64 n3) ∧ w'.cell? ⟨w.heap.size, 3, none⟩ = some (.slice a xs.length cap)) := fun w' h =>
    ⟨by rw [h.cell (p := ⟨w.heap.size, 0, none⟩) hsz, hW, World.cell?_alloc_new]; rfl, by rw [h.cell (p := ⟨w.heap.size, 1, none⟩) hsz, hW, World.cell?_alloc_new]; rfl, by rw [h.cell (p := ⟨w.heap.size, 2, none⟩) hsz, hW, World.cell?_alloc_new]; rfl, by rw [h.cell (p := ⟨w.heap.size, 3, none⟩) hsz, hW, World.cell?_alloc_new]; rfl⟩
  have HW : Hid (W = w.alloc (.cells #[.int .i64 n1, .int .i64 n2, .int .i64 n3, .slice a xs.length cap] 24)) := hW
  have HSZ : Hid (∀ w, Strs w a xs → _) := fun w h => szConfig_any w n1 n2 n3 a cap xs hm h hz
  have HLW : Hid (∀ w', Below W.heap.size W w' → Strs w' a xs) := fun w' h => (HL.out.below HB0.out).below h
  have HEnd : Hid (∀ w', Below W.heap.size W w' → Below w.heap.size w w') := fun w' h => HB0.out.trans (h.mono HB0.out.size)
  clear hW hl hz hn1 hn2 hn3
  go_enter Try.func3, Try.ntmps3
  go_wp2_with fail
  rw [← HW.out]
  refine (HSZ.out W (HLW.out W (Below.refl _ _))).mono ?_
  rintro e w1 ⟨r, rfl, hr0, hr1, hb1⟩
  have HB1 : Hid (Below W.heap.size W w1) := hb1
  have HR1 : Hid (0 ≤ r → xs.length ≤ 1048576 ∧ ∀ i (hi : i < xs.length), xs[i].size ≤ 1048576) := hr1
  clear hb1 hr1
  by_cases hneg : r < 0
  · go_wp2
    go_ret
    exact ⟨rfl, HEnd.out _ HB1.out⟩
  obtain ⟨hn2, hz2⟩ := HR1.out (by omega)
  have HS : Hid (∀ (w : World) (a : Option Addr) (cap : Nat), Strs w a xs → _) := fun w a cap h => spec_conf w n1 n2 n3 a cap xs hn2 h hz2
  have HI : Hid (∀ (w : World) (a : Option Addr) (cap : Nat), Strs w a xs → _) := fun w a cap h => impl_conf w n1 n2 n3 a cap xs hn2 h hz2
  generalize configOk n1 n2 n3 xs = b at HS HI
  have hbb : (b != b) = false := by simp
  clear hz2 HR1
  obtain ⟨m0, m1, m2, m3⟩ := HK.out w1 HB1.out
  go_wp2_with fail
  refine (toConfig_any w1 n1 n2 n3 a cap xs hn2 (HLW.out w1 HB1.out)).mono ?_
  rintro e w2 ⟨g, rfl, hg, hg2, hl2, hr2, hb2⟩
  have HL2 : Hid (Strs w2 (some ⟨g, 0, none⟩) xs) := hl2
  have HB2 : Hid (Below W.heap.size W w2) := HB1.out.trans (hb2.mono HB1.out.size)
  clear hl2 hr2 hb2 m0 m1 m2 m3
  go_wp2_with fail
  refine (HS.out w2 _ xs.length HL2.out).mono ?_
  rintro e w3 ⟨rfl, hb3⟩
  have HB3 : Hid (Below W.heap.size W w3) := HB2.out.trans (hb3.mono HB2.out.size)
  clear hb3
  obtain ⟨m0, m1, m2, m3⟩ := HK.out w3 HB3.out
  go_wp2_with fail
  refine (toConfig_any w3 n1 n2 n3 a cap xs hn2 (HLW.out w3 HB3.out)).mono ?_
  rintro e w4 ⟨g2, rfl, hg2', hg3, hl4, hr4, hb4⟩
  have HB4 : Hid (Below W.heap.size W w4) := HB3.out.trans (hb4.mono HB3.out.size)
  obtain ⟨X, hX⟩ : ∃ X, X = w4.alloc (.cells #[.int .i64 n1, .int .i64 n2, .int .i64 n3, .slice (some ⟨g2, 0, none⟩) xs.length xs.length] 27) := ⟨_, rfl⟩
  have hX4 : Below w4.heap.size w4 X := by rw [hX]; exact (Below.refl _ _).alloc (Nat.le_refl _) _
  have HLX : Hid (∀ w', Below X.heap.size X w' → Strs w' (some ⟨g2, 0, none⟩) xs) := fun w' h => (hl4.below hX4).below h
  have HBX : Hid (Below W.heap.size W X) := HB4.out.trans (hX4.mono HB4.out.size)
  have hszX : w4.heap.size < X.heap.size := by rw [hX]; simp
  have HKX : Hid (∀ w', Below X.heap.size X w' → w'.cell? ⟨w4.heap.size, 0, none⟩ = some (.int .i64 n1) ∧ w'.cell? ⟨w4.heap.size, 1, none⟩ = some (.int .i64 n2) ∧ w'.cell? ⟨w4.heap.size, 2, none⟩ = some (.int .i64 n3) ∧ w'.cell? ⟨w4.heap.size, 3, none⟩ = some (.slice (some ⟨g2, 0, none⟩) xs.length xs.length)) := fun w' h =>
    ⟨by rw [h.cell (p := ⟨w4.heap.size, 0, none⟩) hszX, hX, World.cell?_alloc_new]; rfl, by rw [h.cell (p := ⟨w4.heap.size, 1, none⟩) hszX, hX, World.cell?_alloc_new]; rfl, by rw [h.cell (p := ⟨w4.heap.size, 2, none⟩) hszX, hX, World.cell?_alloc_new]; rfl, by rw [h.cell (p := ⟨w4.heap.size, 3, none⟩) hszX, hX, World.cell?_alloc_new]; rfl⟩
  have HX : Hid (X = w4.alloc (.cells #[.int .i64 n1, .int .i64 n2, .int .i64 n3, .slice (some ⟨g2, 0, none⟩) xs.length xs.length] 27)) := hX
  clear hX hX4 hl4 hr4 hb4 m0 m1 m2 m3
  go_wp2_with fail
  rw [← HX.out]
  refine (HI.out X _ xs.length (HLX.out X (Below.refl _ _))).mono ?_
  rintro e w5 ⟨rfl, hb5⟩
  have HX5 : Hid (Below X.heap.size X w5) := hb5
  have HB5 : Hid (Below W.heap.size W w5) := HBX.out.trans (hb5.mono HBX.out.size)
  clear hb5
  obtain ⟨m0, m1, m2, m3⟩ := HK.out w5 HB5.out
  obtain ⟨n0, n1', n2', n3'⟩ := HKX.out w5 HX5.out
  have HLa : Hid (Strs w5.drew a xs) := HLW.out w5 HB5.out
  have HLb : Hid (Strs w5.drew (some ⟨g2, 0, none⟩) xs) := HLX.out w5 HX5.out
  have HD : Hid (∀ w', Below w5.drew.heap.size w5.drew w' → Below w5.heap.size w5 w') := fun w' h => ⟨h.os, h.tape, h.output, h.size, h.block⟩
  have HKK : Hid (∀ w', Below w5.drew.heap.size w5.drew w' → w'.cell? ⟨w4.heap.size, 0, none⟩ = some (.int .i64 n1) ∧ w'.cell? ⟨w4.heap.size, 1, none⟩ = some (.int .i64 n2) ∧ w'.cell? ⟨w4.heap.size, 2, none⟩ = some (.int .i64 n3) ∧ w'.cell? ⟨w4.heap.size, 3, none⟩ = some (.slice (some ⟨g2, 0, none⟩) xs.length xs.length)) := fun w' h =>
    HKX.out w' (HX5.out.trans ((HD.out w' h).mono HX5.out.size))
  go_wp2
  go_region_with (first | (go_at_call 7; refine (toConfig_any w5.drew n1 n2 n3 a cap xs hn2 HLa.out).mono ?_; rintro e w6 ⟨g3', rfl, hg4, hg5, hl6, hr6, hb6⟩; obtain ⟨o0, o1, o2, o3⟩ := HKK.out w6 hb6) | (go_at_call 9; refine (eqConfig_same w6 n1 n2 n3 (some ⟨g2, 0, none⟩) (some ⟨g3', 0, none⟩) xs.length xs.length xs hn2 (HLb.out.below hb6) hl6).mono ?_; rintro e w7 ⟨rfl, hb7⟩))
  all_goals
    have h67 : Below w5.heap.size w5 w7 := (HD.out w6 hb6).trans (hb7.mono (HD.out w6 hb6).size)
    have HB7 : Hid (Below W.heap.size W w7) := HB5.out.trans (h67.mono HB5.out.size)
    clear hl6 hr6 hb6 hb7 o0 o1 o2 o3 h67 m0 m1 m2 m3
    go_wp2
    go_ret
    exact ⟨rfl, HEnd.out _ HB7.out⟩

set_option maxRecDepth 100000 in
theorem lifted (os : Os) (started : os.Started) (H : Type) (enc : TypeId × Value → H) :
    ReturnsInHanded {} Try.checked os 3 .any (Rows.fnExactConfigOkSpec.pre6 enc Try.prog Try.f3 Rows.fnExactConfigOkRow.domain false) (Rows.fnExactConfigOkSpec.post enc Try.prog Try.f3 false true false false) := by
  refine returnsInHanded_of_change (C := Try.checked) own started (by kernel_rfl) Try.func3
    (ChangeSpec.witness6 (enc := enc) (C := Try.checked) false ⟨#[], #[.agg #[.int .i64 0, .int .i64 0, .int .i64 0, .slice none 0 0]], []⟩ 8 (by kernel_rfl) (by kernel_rfl) (by kernel_rfl) (by kernel_rfl)) ?_
  intro W base args ds gs before hval0 hW hcnd _
  have hval : ∀ (j : Nat) t v, Try.f3.params[j]? = some t → args[j]? = some v → Value.okWide Try.prog W .any base t v := hval0
  have hW' := hW
  obtain ⟨p, q, hA0, hV, rfl, hfz, hnd⟩ := hW
  have hA : DataW.TrodAll enc Try.prog W 0 (fun _ => true) true Try.f3.params.toList args.toList ds p := hA0
  rw [Try.params3] at hA hval
  obtain ⟨v0, d0, rfl, rfl, h0⟩ := trodAll_one hA
  obtain ⟨rfl, rfl⟩ := trodVars_none hV
  have k0 := h0
  have lt0 : ∀ x ∈ p, x.block < W.heap.size := by obtain ⟨m, hm⟩ := k0; exact DataW.trod_lt m _ _ _ hm
  obtain ⟨n1, n2, n3, a, cap, xs, rfl, hn1, hn2, hn3, hl, hm, hz⟩ := config_of (hval 0 24 v0 rfl rfl) h0
  clear hA0 hval0
  refine (walk n1 n2 n3 a cap xs W hn1 hn2 hn3 hl hm hz).mono fun e W' ⟨he, bel⟩ => ?_
  subst he
  exact ⟨_, rfl, _, _, _, [], _, [], hW', trodAll_mk1 (shut_bool Try.underlying4 _), trodAll_mk1 (Below.trod laidOut (by kernel_rfl) (of_decide_eq_true (by kernel_rfl)) k0 bel lt0), rfl, bel.frame _, fun h => by cases h⟩

theorem over : Rows.fnExactConfigOkRow.holds Try.pinned (OpenSpec.ofChange Rows.fnExactConfigOkSpec) :=
  OpenClaim.holds_of_wide 3 Try.f3 rfl rfl rfl rfl rfl rfl rfl ⟨rfl, rfl, rfl, rfl, rfl⟩ rfl rfl rfl rfl rfl (by kernel_rfl) Try.func3 (by kernel_rfl)
    (of_decide_eq_true (by kernel_rfl)) (by unfold Func.isWrapper; first | (rw [if_pos (by decide +kernel)]; kernel_rfl) | (rw [if_neg (by decide +kernel)]; exact ⟨rfl, rfl⟩))
    (fun os started H enc _ => lifted os started H enc)

theorem proved : Rows.FnExactConfigOkSaid := over
#print axioms proved
end Go.Proofs.Ytnghhfdbibbpcag.fnExactConfigOk
