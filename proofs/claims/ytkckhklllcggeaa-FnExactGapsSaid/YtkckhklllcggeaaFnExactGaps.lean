/-
  FnExactGaps: for every text and every two numbers the law that holds the program's Gaps against the specification's Gaps returns true, and the text reads as before; no condition.
-/
import Derived.Test.YtkckhklllcggeaaRows
import Derived.WalkKit
import Derived.WalkSpells
import Derived.Handy
import Derived.Test.YtkckhklllcggeaaSpanLaw
import Derived.ProofKit
import Derived.OpenShut
import Derived.ShutString
import Derived.ChangeOld
import Derived.Below
namespace Go.Proofs.Ytkckhklllcggeaa.fnExactGaps
open Go.ChangeShapes Go.WideShapes Go.ChangeAt Go.RowKit
open Go.ChangeMaps (open_string shut_string)
set_option linter.unusedVariables false
open lb ints

theorem own : ownKnob Try.prog.godebug = none := by kernel_rfl

theorem walk (a0 : ByteArray) (a1 : Int) (a2 : Int) (w0 : a0.size ≤ maxLen) (w1 : (Lit.int .i64 a1).wf = true) (w2 : (Lit.int .i64 a2).wf = true) (w : World) :
    Calls Try.prog 11 #[.string a0, .int .i64 a1, .int .i64 a2] w fun e w' => e = .returned (.bool true) ∧ Below w.heap.size w w' := by
  unfold maxLen at w0
  by_cases hbig : (1048576 : Int) < (a0.size : Int)
  · go_enter Try.func11, Try.ntmps11
    go_wp2
    go_ret
    exact ⟨rfl, Below.refl _ _⟩
  · have HS : Hid (∀ w, Calls _ _ _ w _) := fun w => spec_gaps a0 a1 a2 w
    have HI : Hid (∀ w, Calls _ _ _ w _) := fun w => impl_gaps a0 a1 a2 w
    have hle := (gapsOfM_sum a0 a1 a2).2.1
    generalize gapsOfM a0 a1 a2 = G at HS HI hle
    have hq0 : (((1 + G.length * 2 : Nat) : Int) != ((1 + G.length * 2 : Nat) : Int)) = false := by simp
    have hq1 : ¬ ((1 + G.length * 2 : Nat) : Int) < 0 := by omega
    have HXL : Hid (G.length ≤ 1048576) := by show G.length ≤ 1048576; omega
    have HXF : Hid ((flatG G).length = G.length * 2) := flatG_len G
    clear hle
    go_enter Try.func11, Try.ntmps11
    go_wp2_with fail
    refine (HS.out _).mono ?_
    rintro e w1 ⟨v, rfl, hown, hb1⟩
    obtain ⟨b0, g0, c0, rfl, hg0, hi0⟩ := flat_of_row hown
    have HB1 : Hid (Below w.heap.size w w1) := hb1
    have HJ1 : Hid (Ints w1 b0 g0 (flatG G)) := hi0
    have HJG : Hid (0 < (flatG G).length → g0 < w1.heap.size) := fun h => hi0.lt h
    clear hown hi0 hb1
    go_wp2_with fail
    refine (HI.out _).mono ?_
    rintro e w2 ⟨v, rfl, hown, hb2⟩
    obtain ⟨b1, g1, c1, rfl, hg1, hi1⟩ := flat_of_row hown
    have HB2 : Hid (Below w.heap.size w w2) := HB1.out.trans (hb2.mono HB1.out.size)
    have HI2 : Hid (Ints w2 b1 g1 (flatG G)) := hi1
    have HJ2 : Hid (Ints w2 b0 g0 (flatG G)) := HJ1.out.below hb2
    have HG1 : Hid (w.heap.size ≤ g1) := Nat.le_trans HB1.out.size hg1
    have HGN : Hid (0 < (flatG G).length → g0 ≠ g1) := fun h => by have := HJG.out h; omega
    clear hown hi1 hb2 hg1 hg0
    go_wp2_with fail
    refine (eqSpanS_same w2 b1 b0 g1 g0 c1 c0 G.length (flatG G) HXF.out HXL.out HI2.out HJ2.out).mono ?_
    rintro e w3 ⟨rfl, hb3⟩
    have HB3 : Hid (Below w.heap.size w w3) := HB2.out.trans (hb3.mono HB2.out.size)
    have HI3 : Hid (Ints w3 b1 g1 (flatG G)) := HI2.out.below hb3
    have HJ3 : Hid (Ints w3 b0 g0 (flatG G)) := HJ2.out.below hb3
    clear hb3
    go_wp2_with fail
    refine (markSpanS_any w3 b1 g1 G.length c1 (flatG G) 1 HXF.out HI3.out HXL.out (by omega)).mono ?_
    rintro e w4 ⟨rfl, hg4, hi4⟩
    have HB4 : Hid (Below w.heap.size w w4) := HB3.out.trans (below_of_grown hg4 HB3.out.size HG1.out)
    have HI4 : Hid (Ints w4 b1 g1 (marks 1 (G.length * 2))) := hi4
    have HJ4 : Hid (Ints w4 b0 g0 (flatG G)) := HJ3.out.grown2 hg4 HGN.out
    clear hg4 hi4
    go_wp2_with fail
    refine (heldSpanS_any w4 b1 g1 G.length c1 1 HI4.out HXL.out (by omega)).mono ?_
    rintro e w5 ⟨rfl, rfl⟩
    have HB5 : Hid (Below w.heap.size w w4) := HB4.out
    have HI5 : Hid (Ints w4 b1 g1 (marks 1 (G.length * 2))) := HI4.out
    have HJ5 : Hid (Ints w4 b0 g0 (flatG G)) := HJ4.out
    go_wp2_with fail
    refine (HI.out _).mono ?_
    rintro e w6 ⟨v, rfl, hown, hb6⟩
    obtain ⟨b2, g2, c2, rfl, hg2, hi2⟩ := flat_of_row hown
    have HB6 : Hid (Below w.heap.size w w6) := HB5.out.trans (hb6.mono HB5.out.size)
    have HH6 : Hid (Ints w6 b2 g2 (flatG G)) := hi2
    have HI6 : Hid (Ints w6 b1 g1 (marks 1 (G.length * 2))) := HI5.out.below hb6
    have HJ6 : Hid (Ints w6 b0 g0 (flatG G)) := HJ5.out.below hb6
    clear hown hi2 hb6 hg2
    go_wp2_with fail
    refine (eqSpanS_same w6 b2 b0 g2 g0 c2 c0 G.length (flatG G) HXF.out HXL.out HH6.out HJ6.out).mono ?_
    rintro e w7 ⟨rfl, hb7⟩
    have HB7 : Hid (Below w.heap.size w w7) := HB6.out.trans (hb7.mono HB6.out.size)
    have HI7 : Hid (Ints w7 b1 g1 (marks 1 (G.length * 2))) := HI6.out.below hb7
    clear hb7
    go_wp2_with fail
    refine (heldSpanS_any w7 b1 g1 G.length c1 1 HI7.out HXL.out (by omega)).mono ?_
    rintro e w8 ⟨rfl, rfl⟩
    go_wp2
    go_ret
    exact ⟨rfl, HB7.out⟩

set_option maxRecDepth 100000 in
theorem lifted (os : Os) (started : os.Started) (H : Type) (enc : TypeId × Value → H) :
    ReturnsInHanded {} Try.checked os 11 .any (Rows.fnExactGapsSpec.pre6 enc Try.prog Try.f11 Rows.fnExactGapsRow.domain false) (Rows.fnExactGapsSpec.post enc Try.prog Try.f11 false true false false) := by
  refine returnsInHanded_of_change (C := Try.checked) own started (by kernel_rfl) Try.func11
    (ChangeSpec.witness6 (enc := enc) (C := Try.checked) false ⟨#[], #[.string ByteArray.empty, .int .i64 0, .int .i64 0], []⟩ 8 (by kernel_rfl) (by kernel_rfl) (by kernel_rfl) (by kernel_rfl)) ?_
  intro W base args ds gs before hval0 hW hcnd _
  have hval : ∀ (j : Nat) t v, Try.f11.params[j]? = some t → args[j]? = some v → Value.okWide Try.prog W .any base t v := hval0
  have hW' := hW
  obtain ⟨p, q, hA0, hV, rfl, hfz, hnd⟩ := hW
  have hA : DataW.TrodAll enc Try.prog W 0 (fun _ => true) true Try.f11.params.toList args.toList ds p := hA0
  rw [Try.params11] at hA hval
  obtain ⟨v0, vs0, d0, ds0, p0, q0, hargs, rfl, rfl, h0, r0⟩ := trodAll_cons hA
  obtain ⟨v1, vs1, d1, ds1, p1, q1, rfl, rfl, rfl, h1, r1⟩ := trodAll_cons r0
  obtain ⟨v2, vs2, d2, ds2, p2, q2, rfl, rfl, rfl, h2, r2⟩ := trodAll_cons r1
  obtain ⟨rfl, rfl, rfl⟩ := trodAll_nil r2
  obtain rfl : args = #[v0, v1, v2] := by cases args; simp_all
  obtain ⟨rfl, rfl⟩ := trodVars_none hV
  obtain ⟨a0, rfl, rfl, rfl, w0⟩ := open_string Try.underlying9 (hval 0 9 v0 rfl rfl) h0
  obtain ⟨a1, rfl, rfl, rfl, w1⟩ := open_int Try.underlying2 (hval 1 2 v1 rfl rfl) h1
  obtain ⟨a2, rfl, rfl, rfl, w2⟩ := open_int Try.underlying2 (hval 2 2 v2 rfl rfl) h2
  clear hA0 hval0
  simp only [List.append_nil] at hW'
  refine (walk a0 a1 a2 w0 w1 w2 W).mono fun e W' ⟨he, hg⟩ => ?_
  subst he
  exact ⟨_, rfl, _, _, _, [], [], [], hW', (trodAll_cons_mk (shut_bool Try.underlying4 _) trodAll_mk0), (trodAll_cons_mk (shut_string Try.underlying9 w0) (trodAll_cons_mk (shut_int Try.underlying2 w1) (trodAll_cons_mk (shut_int Try.underlying2 w2) trodAll_mk0))), rfl, hg.frame _, fun h => by cases h⟩

theorem over : Rows.fnExactGapsRow.holds Try.pinned (OpenSpec.ofChange Rows.fnExactGapsSpec) :=
  OpenClaim.holds_of_wide 11 Try.f11 rfl rfl rfl rfl rfl rfl rfl ⟨rfl, rfl, rfl, rfl, rfl⟩ rfl rfl rfl rfl rfl (by kernel_rfl) Try.func11 (by kernel_rfl)
    (of_decide_eq_true (by kernel_rfl)) (by unfold Func.isWrapper; first | (rw [if_pos (by decide +kernel)]; kernel_rfl) | (rw [if_neg (by decide +kernel)]; exact ⟨rfl, rfl⟩))
    (fun os started H enc _ => lifted os started H enc)

theorem proved : Rows.FnExactGapsSaid :=
  over
#print axioms proved
end Go.Proofs.Ytkckhklllcggeaa.fnExactGaps
