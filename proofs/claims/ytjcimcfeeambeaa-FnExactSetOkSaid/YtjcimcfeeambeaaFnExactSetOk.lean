/-
  FnExactSetOk: for every slice of whole numbers the law that holds the program's SetOk against the specification's SetOk returns true, and the slice reads as before; no condition.
-/
import Derived.Test.YtjcimcfeeambeaaIntsOpen
import Derived.Test.YtjcimcfeeambeaaSetOk
import Derived.ProofKit
import Derived.OpenShut
import Derived.ShutString
import Derived.ChangeOld
import Derived.Below
namespace Go.Proofs.Ytjcimcfeeambeaa.fnExactSetOk
open Go.ChangeShapes Go.WideShapes Go.ChangeAt Go.RowKit
open ints

theorem own : ownKnob Try.prog.godebug = none := by kernel_rfl
theorem laidOut : laidOutB Try.prog = true := by kernel_rfl


set_option linter.unusedVariables false in
set_option maxHeartbeats 4000000 in
theorem walk (a : Option Addr) (cap : Nat) (xs : List Int) (w : World) (hl : Nums w a xs) (hm : xs.length ≤ maxLen) :
    Calls Try.prog 6 #[.slice a xs.length cap] w fun e w' => e = .returned (.bool true) ∧ Below w.heap.size w w' := by
  have HL : Hid (Nums w a xs) := hl
  clear hl
  unfold maxLen at hm
  by_cases hbig : (1048576 : Int) < (xs.length : Int)
  · go_enter Try.func6, Try.ntmps6
    go_wp2
    go_ret
    exact ⟨rfl, Below.refl _ _⟩
  have hn : xs.length ≤ 1048576 := by omega
  have HN : Hid (xs.length ≤ 1048576) := hn
  have HS : Hid (∀ (w : World) (a : Option Addr) (cap : Nat), Nums w a xs → _) := fun w a cap h => spec_setok w a cap xs hn h
  have HI : Hid (∀ (w : World) (a : Option Addr) (cap : Nat), Nums w a xs → _) := fun w a cap h => impl_setok w a cap xs hn h
  generalize riseN xs 1023 xs.length = s at HS HI
  clear hn
  go_enter Try.func6, Try.ntmps6
  go_wp2_with fail
  refine (toInt64S_any w a cap xs HN.out HL.out).mono ?_
  rintro e w1 ⟨g1, rfl, _, _, hi1, hb1⟩
  have HI1 : Hid (Nums w1 (some ⟨g1, 0, none⟩) xs) := hi1.nums
  have HB1 : Hid (Below w.heap.size w w1) := hb1
  clear hi1 hb1
  go_wp2_with fail
  refine (HS.out w1 _ xs.length HI1.out).mono ?_
  rintro e w2 ⟨rfl, hb2⟩
  have HB2 : Hid (Below w.heap.size w w2) := HB1.out.trans (hb2.mono HB1.out.size)
  clear hb2
  go_wp2_with fail
  refine (toInt64S_any w2 a cap xs HN.out (HL.out.below HB2.out)).mono ?_
  rintro e w3 ⟨g3, rfl, _, _, hi3, hb3⟩
  have HI3 : Hid (Ints w3 (some ⟨g3, 0, none⟩) g3 xs) := hi3
  have HB3 : Hid (Below w.heap.size w w3) := HB2.out.trans (hb3.mono HB2.out.size)
  clear hi3 hb3
  go_wp2_with fail
  refine (HI.out w3 _ xs.length HI3.out.nums).mono ?_
  rintro e w4 ⟨rfl, hw4⟩
  have hb4 : Below w3.heap.size w3 w4 := by rw [← hw4]; exact Below.refl _ _
  clear hw4
  have HI4 : Hid (Ints w4 (some ⟨g3, 0, none⟩) g3 xs) := HI3.out.below hb4
  have HB4 : Hid (Below w.heap.size w w4) := HB3.out.trans (hb4.mono HB3.out.size)
  clear hb4
  go_wp2_with fail
  refine (toInt64S_any w4 a cap xs HN.out (HL.out.below HB4.out)).mono ?_
  rintro e w5 ⟨g5, rfl, _, _, hi5, hb5⟩
  have HI5 : Hid (Ints w5 (some ⟨g5, 0, none⟩) g5 xs) := hi5
  have HI5' : Hid (Ints w5 (some ⟨g3, 0, none⟩) g3 xs) := HI4.out.below hb5
  have HB5 : Hid (Below w.heap.size w w5) := HB4.out.trans (hb5.mono HB4.out.size)
  clear hi5 hb5
  go_wp2_with fail
  refine (eqInt64S_same w5 _ _ g3 g5 xs.length xs.length xs HN.out HI5'.out HI5.out).mono ?_
  rintro e w6 ⟨rfl, hb6⟩
  have HB6 : Hid (Below w.heap.size w w6) := HB5.out.trans (hb6.mono HB5.out.size)
  clear hb6
  go_wp2
  go_ret
  exact ⟨rfl, HB6.out⟩

set_option maxRecDepth 100000 in
theorem lifted (os : Os) (started : os.Started) (H : Type) (enc : TypeId × Value → H) :
    ReturnsInHanded {} Try.checked os 6 .any (Rows.fnExactSetOkSpec.pre6 enc Try.prog Try.f6 Rows.fnExactSetOkRow.domain false) (Rows.fnExactSetOkSpec.post enc Try.prog Try.f6 false true false false) := by
  refine returnsInHanded_of_change (C := Try.checked) own started (by kernel_rfl) Try.func6
    (ChangeSpec.witness6 (enc := enc) (C := Try.checked) false ⟨#[], #[.slice none 0 0], []⟩ 8 (by kernel_rfl) (by kernel_rfl) (by kernel_rfl) (by kernel_rfl)) ?_
  intro W base args ds gs before hval0 hW hcnd _
  have hval : ∀ (j : Nat) t v, Try.f6.params[j]? = some t → args[j]? = some v → Value.okWide Try.prog W .any base t v := hval0
  have hW' := hW
  obtain ⟨p, q, hA0, hV, rfl, hfz, hnd⟩ := hW
  have hA : DataW.TrodAll enc Try.prog W 0 (fun _ => true) true Try.f6.params.toList args.toList ds p := hA0
  rw [Try.params6] at hA hval
  obtain ⟨v0, d0, rfl, rfl, h0⟩ := trodAll_one hA
  obtain ⟨rfl, rfl⟩ := trodVars_none hV
  have k0 := h0
  have lt0 : ∀ x ∈ p, x.block < W.heap.size := by obtain ⟨m, hm⟩ := k0; exact DataW.trod_lt m _ _ _ hm
  obtain ⟨a, cap, xs, rfl, hm, hl⟩ := nums_of (hval 0 24 v0 rfl rfl) h0
  clear hA0 hval0
  refine (walk a cap xs W hl hm).mono fun e W' ⟨he, bel⟩ => ?_
  subst he
  exact ⟨_, rfl, _, _, _, [], _, [], hW', trodAll_mk1 (shut_bool Try.underlying4 _), trodAll_mk1 (Below.trod laidOut (by kernel_rfl) (of_decide_eq_true (by kernel_rfl)) k0 bel lt0), rfl, bel.frame _, fun h => by cases h⟩

theorem over : Rows.fnExactSetOkRow.holds Try.pinned (OpenSpec.ofChange Rows.fnExactSetOkSpec) :=
  OpenClaim.holds_of_wide 6 Try.f6 rfl rfl rfl rfl rfl rfl rfl ⟨rfl, rfl, rfl, rfl, rfl⟩ rfl rfl rfl rfl rfl (by kernel_rfl) Try.func6 (by kernel_rfl)
    (of_decide_eq_true (by kernel_rfl)) (by unfold Func.isWrapper; first | (rw [if_pos (by decide +kernel)]; kernel_rfl) | (rw [if_neg (by decide +kernel)]; exact ⟨rfl, rfl⟩))
    (fun os started H enc _ => lifted os started H enc)

theorem proved : Rows.FnExactSetOkSaid := over
#print axioms proved
end Go.Proofs.Ytjcimcfeeambeaa.fnExactSetOk
