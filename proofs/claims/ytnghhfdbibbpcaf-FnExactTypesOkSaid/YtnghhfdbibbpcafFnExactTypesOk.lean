/-
  FnExactTypesOk: for every list of texts the law that holds the program's TypesOk against the specification's TypesOk returns true, and the list reads as before; no condition.
-/
import Derived.Test.YtnghhfdbibbpcafStrsOpen
import Derived.Deep.RegionWith
import Derived.ProofKit
import Derived.OpenShut
import Derived.ShutString
import Derived.ChangeOld
import Derived.Below
namespace Go.Proofs.Ytnghhfdbibbpcaf.fnExactTypesOk
open Go.ChangeShapes Go.WideShapes Go.ChangeAt Go.RowKit
open kinds

theorem own : ownKnob Try.prog.godebug = none := by kernel_rfl
theorem laidOut : laidOutB Try.prog = true := by kernel_rfl


set_option linter.unusedVariables false in
set_option maxHeartbeats 4000000 in
theorem walk (a : Option Addr) (cap : Nat) (xs : List ByteArray) (w : World) (hl : Strs w a xs) (hm : xs.length ≤ maxLen) (hz : ∀ i (hi : i < xs.length), xs[i].size ≤ maxLen) :
    Calls Try.prog 7 #[.slice a xs.length cap] w fun e w' => e = .returned (.bool true) ∧ Below w.heap.size w w' := by
  have HL : Hid (Strs w a xs) := hl
  have HSZ : Hid (∀ w, Strs w a xs → _) := fun w h => szStringS_any w a cap xs 1048576 (by omega) (by omega) hm h hz
  clear hl hz
  go_enter Try.func7, Try.ntmps7
  go_wp2_with fail
  refine (HSZ.out w HL.out).mono ?_
  rintro e w1 ⟨r, rfl, hr0, hr9, hr1, rfl⟩
  by_cases hneg : r < 0
  · clear hr1
    go_wp2
    go_ret
    exact ⟨rfl, Below.refl _ _⟩
  obtain ⟨hn2, hz2⟩ := hr1 (by omega)
  have HS : Hid (∀ (w : World) (a : Option Addr) (cap : Nat), Strs w a xs → _) := fun w a cap h => spec_types w a cap xs hn2 h hz2
  have HI : Hid (∀ (w : World) (a : Option Addr) (cap : Nat), Strs w a xs → _) := fun w a cap h => impl_types w a cap xs hn2 h hz2
  generalize typesOk xs = b at HS HI
  have hbb : (b != b) = false := by simp
  clear hz2 hr1
  go_wp2_with fail
  refine (toStringS_any w a cap xs hn2 HL.out).mono ?_
  rintro e w2 ⟨g, rfl, hg, hg2, hl2, hr2, hb2⟩
  have HL2 : Hid (Strs w2 (some ⟨g, 0, none⟩) xs) := hl2
  have HB2 : Hid (Below w.heap.size w w2) := hb2
  clear hl2 hr2 hb2 hg hg2
  go_wp2_with fail
  refine (HS.out w2 _ xs.length HL2.out).mono ?_
  rintro e w3 ⟨rfl, rfl⟩
  go_wp2_with fail
  refine (toStringS_any w2 a cap xs hn2 (HL.out.below HB2.out)).mono ?_
  rintro e w4 ⟨g2, rfl, hg, hg3, hl4, hr4, hb4⟩
  have HL4 : Hid (Strs w4 (some ⟨g2, 0, none⟩) xs) := hl4
  have HB4 : Hid (Below w.heap.size w w4) := HB2.out.trans (hb4.mono HB2.out.size)
  clear hl4 hr4 hb4 hg hg3
  go_wp2_with fail
  refine (HI.out w4 _ xs.length HL4.out).mono ?_
  rintro e w5 ⟨rfl, rfl⟩
  have HLw : Hid (Strs w4 a xs) := HL.out.below HB4.out
  go_wp2_with fail
  refine (toStringS_any w4 a cap xs hn2 HLw.out).mono ?_
  rintro e w6 ⟨g3, rfl, hg3, hg4, hl6, hr6, hb6⟩
  go_wp2_with fail
  refine (eqStringS_same w6 (some ⟨g2, 0, none⟩) (some ⟨g3, 0, none⟩) xs.length xs.length xs hn2 (HL4.out.below hb6) hl6).mono ?_
  rintro e w7 ⟨rfl, hb7⟩
  have h67 := hb6.trans (hb7.mono hb6.size)
  clear hl6 hr6 hb6 hb7
  go_wp2
  go_ret
  exact ⟨rfl, HB4.out.trans (h67.mono HB4.out.size)⟩

set_option maxRecDepth 100000 in
theorem lifted (os : Os) (started : os.Started) (H : Type) (enc : TypeId × Value → H) :
    ReturnsInHanded {} Try.checked os 7 .any (Rows.fnExactTypesOkSpec.pre6 enc Try.prog Try.f7 Rows.fnExactTypesOkRow.domain false) (Rows.fnExactTypesOkSpec.post enc Try.prog Try.f7 false true false false) := by
  refine returnsInHanded_of_change (C := Try.checked) own started (by kernel_rfl) Try.func7
    (ChangeSpec.witness6 (enc := enc) (C := Try.checked) false ⟨#[], #[.slice none 0 0], []⟩ 8 (by kernel_rfl) (by kernel_rfl) (by kernel_rfl) (by kernel_rfl)) ?_
  intro W base args ds gs before hval0 hW hcnd _
  have hval : ∀ (j : Nat) t v, Try.f7.params[j]? = some t → args[j]? = some v → Value.okWide Try.prog W .any base t v := hval0
  have hW' := hW
  obtain ⟨p, q, hA0, hV, rfl, hfz, hnd⟩ := hW
  have hA : DataW.TrodAll enc Try.prog W 0 (fun _ => true) true Try.f7.params.toList args.toList ds p := hA0
  rw [Try.params7] at hA hval
  obtain ⟨v0, d0, rfl, rfl, h0⟩ := trodAll_one hA
  obtain ⟨rfl, rfl⟩ := trodVars_none hV
  have k0 := h0
  have lt0 : ∀ x ∈ p, x.block < W.heap.size := by obtain ⟨m, hm⟩ := k0; exact DataW.trod_lt m _ _ _ hm
  obtain ⟨a, cap, xs, rfl, hl, hm, hz⟩ := strs_of (hval 0 44 v0 rfl rfl) h0
  clear hA0 hval0
  refine (walk a cap xs W hl hm hz).mono fun e W' ⟨he, bel⟩ => ?_
  subst he
  exact ⟨_, rfl, _, _, _, [], _, [], hW', trodAll_mk1 (shut_bool Try.underlying4 _), trodAll_mk1 (Below.trod laidOut (by kernel_rfl) (of_decide_eq_true (by kernel_rfl)) k0 bel lt0), rfl, bel.frame _, fun h => by cases h⟩

theorem over : Rows.fnExactTypesOkRow.holds Try.pinned (OpenSpec.ofChange Rows.fnExactTypesOkSpec) :=
  OpenClaim.holds_of_wide 7 Try.f7 rfl rfl rfl rfl rfl rfl rfl ⟨rfl, rfl, rfl, rfl, rfl⟩ rfl rfl rfl rfl rfl (by kernel_rfl) Try.func7 (by kernel_rfl)
    (of_decide_eq_true (by kernel_rfl)) (by unfold Func.isWrapper; first | (rw [if_pos (by decide +kernel)]; kernel_rfl) | (rw [if_neg (by decide +kernel)]; exact ⟨rfl, rfl⟩))
    (fun os started H enc _ => lifted os started H enc)

theorem proved : Rows.FnExactTypesOkSaid := over
#print axioms proved
end Go.Proofs.Ytnghhfdbibbpcaf.fnExactTypesOk
