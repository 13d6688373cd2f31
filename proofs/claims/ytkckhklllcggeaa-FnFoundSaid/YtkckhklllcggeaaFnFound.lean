/-
  FnFound: for every code the law on drawn maps (a run that is found can be taken, and none can that begins ahead of it) returns true, and the code reads as before; no condition.
-/
import Derived.Test.YtkckhklllcggeaaRows
import Derived.WalkKit
import Derived.Test.YtkckhklllcggeaaFoundMath
import Derived.ProofKit
import Derived.OpenShut
import Derived.ShutString
import Derived.ChangeOld
import Derived.Below
namespace Go.Proofs.Ytkckhklllcggeaa.fnFound
open Go.ChangeShapes Go.WideShapes Go.ChangeAt Go.RowKit
open Go.ChangeMaps (open_string shut_string)
set_option linter.unusedVariables false
open lb ints rd

theorem own : ownKnob Try.prog.godebug = none := by kernel_rfl
theorem laidOut : laidOutB Try.prog = true := by kernel_rfl

/-- WHAT THE WALK IS TOLD OF A SLICE OF INTEGERS THAT CAME IN: it is nil; or it leads to a row of 'cap' cells, the numbers 'zs' (the first 'len' are its elements, the rest its spare room), each fitting its kind. -/
def IsRow (k : IntKind) (w : World) (a : Option Addr) (len cap : Nat) (zs : List Int) : Prop :=
  (a = none ∧ len = 0 ∧ cap = 0 ∧ zs = []) ∨
  ∃ x, a = some x ∧ len ≤ cap ∧ cap ≤ maxLen ∧ zs.length = cap ∧ (∀ i, i < zs.length → w.cell? (x.add i) = some (.int k (zs.getD i 0))) ∧ ∀ n ∈ zs, (Lit.int k n).wf = true

theorem walk (a0 : Option Addr) (len0 cap0 : Nat) (z0 : List Int) (w : World) (w0 : IsRow .u8 w a0 len0 cap0 z0) :
    Calls Try.prog 5 #[.slice a0 len0 cap0] w fun e w' => e = .returned (.bool true) ∧ Below w.heap.size w w' := by
  have c0 := code_of w0
  clear w0
  by_cases hb0 : 1048576 < len0
  · go_enter Try.func5, Try.ntmps5
    go_wp2_with fail
    refine (big_yes _ a0 len0 cap0 hb0).mono ?_
    rintro e w' ⟨rfl, rfl⟩
    go_wp2
    go_ret
    exact ⟨rfl, Below.refl _ _⟩
  have HC : Hid (RdCode w w.heap.size a0 len0) := c0
  clear c0
  go_enter Try.func5, Try.ntmps5
  go_wp2_with fail
  refine (big_no _ a0 len0 cap0 (by omega)).mono ?_
  rintro e w' ⟨rfl, rfl⟩
  go_wp2_with fail
  refine (draw_find _ a0 len0 cap0 (by omega) HC.out).mono ?_
  rintro e w1 ⟨m, x, y, n, rfl, _, hx, hy, hn, hb⟩
  have HB1 : Hid (Below w.heap.size w w1) := hb
  clear hb hx hy hn
  have HI : Hid (∀ w, Calls _ _ _ w _) := fun w => impl_find m x y n w
  have HS : Hid (∀ w, Calls _ _ _ w _) := fun w => spec_find m x y n w
  go_wp2_with fail
  refine (HI.out _).mono ?_
  rintro e w2 ⟨rfl, hb2⟩
  have HB2 : Hid (Below w.heap.size w w2) := HB1.out.trans (hb2.mono HB1.out.size)
  clear hb2
  have HP : Hid (0 ≤ findOf m x y n → _) := find_pos m x y n
  by_cases hr : findOf m x y n < 0
  · clear HP
    generalize findOf m x y n = r at HS hr ⊢
    have hrr : (r != r) = false := by simp
    have hre : (r == r) = true := by simp
    go_wp2_with fail
    refine (HS.out _).mono ?_
    rintro e w3 ⟨rfl, hb3⟩
    have HB3 : Hid (Below w.heap.size w w3) := HB2.out.trans (hb3.mono HB2.out.size)
    clear hb3
    go_wp2_with fail
    refine (HS.out _).mono ?_
    rintro e w4 ⟨rfl, hb4⟩
    have HB4 : Hid (Below w.heap.size w w4) := HB3.out.trans (hb4.mono HB3.out.size)
    clear hb4
    go_wp2
    go_ret
    exact ⟨rfl, HB4.out⟩
  · obtain ⟨A, N, q, t, rfl, rfl, rfl, ht, hq1, hq2, hAN, hAt, htq, htk, hno⟩ := HP.out (by omega)
    rw [ht] at HS ⊢
    have HTK : Hid (takeOk m (t : Int) (q : Int) = true) := htk
    have HNO : Hid (∀ u : Nat, A ≤ u → u < t → takeOk m (u : Int) (q : Int) = false) := hno
    have HT : Hid (∀ (u : Nat) (w : World), Calls Try.prog 24 #[.string m, .int .i64 (u : Int), .int .i64 (q : Int)] w fun e w' => e = .returned (.tuple #[.string (outOf (takeOk m u q) m u q), .bool (takeOk m u q)]) ∧ Below w.heap.size w w') := fun u w => impl_take w m u q
    clear HP HI hr ht htk hno
    have hrr : ((t : Int) != (t : Int)) = false := by simp
    have ht0 : ¬ (t : Int) < 0 := by omega
    go_wp2_with fail
    refine (HS.out _).mono ?_
    rintro e w3 ⟨rfl, hb3⟩
    have HB3 : Hid (Below w.heap.size w w3) := HB2.out.trans (hb3.mono HB2.out.size)
    clear hb3
    go_wp2
    go_loopw [8] (fun i wr => ∃ u : Nat, A ≤ u ∧ u ≤ t ∧ i = .int .i64 (u : Int) ∧ Below w.heap.size w wr) (fun i _ => t - (intOf i).toNat)
    case atStart => exact ⟨A, Nat.le_refl _, hAt, rfl, HB3.out⟩
    case round =>
      obtain ⟨u, hu1, hu2, rfl, hb⟩ := hrel
      have HB : Hid (Below w.heap.size w wr) := hb
      clear hb
      by_cases hlt : u < t
      · have hlti : (u : Int) < (t : Int) := by omega
        have HC1 : Hid (∀ w, _) := HT.out u
        rw [HNO.out u hu1 hlt] at HC1
        go_wp2_with fail
        refine (HC1.out _).mono ?_
        rintro e w5 ⟨rfl, hb5⟩
        have HB5 : Hid (Below w.heap.size w w5) := HB.out.trans (hb5.mono HB.out.size)
        clear hb5
        go_wp2
        go_roundw
        case rel => exact ⟨u + 1, by omega, by omega, by go_num, HB5.out⟩
        case measure => simp [intOf]; omega
      · have hu3 : u = t := by omega
        subst hu3
        have HC1 : Hid (∀ w, _) := HT.out u
        rw [HTK.out] at HC1
        have d1 : (A : Int) ≤ (u : Int) := by omega
        have d2 : (u : Int) + (q : Int) ≤ ((A + N : Nat) : Int) := by omega
        have dd1 : decide ((A : Int) ≤ (u : Int)) = true := by simpa using d1
        have dd2 : decide ((u : Int) + (q : Int) ≤ (A : Int) + (N : Int)) = true := by simp; omega
        generalize outOf true m (u : Int) (q : Int) = st at HC1
        go_wp2_with fail
        refine (HC1.out _).mono ?_
        rintro e w5 ⟨rfl, hb5⟩
        have HB5 : Hid (Below w.heap.size w w5) := HB.out.trans (hb5.mono HB.out.size)
        clear hb5
        go_wp2
        go_ret
        exact ⟨rfl, HB5.out⟩

set_option maxRecDepth 100000 in
theorem lifted (os : Os) (started : os.Started) (H : Type) (enc : TypeId × Value → H) :
    ReturnsInHanded {} Try.checked os 5 .any (Rows.fnFoundSpec.pre6 enc Try.prog Try.f5 Rows.fnFoundRow.domain false) (Rows.fnFoundSpec.post enc Try.prog Try.f5 false true false false) := by
  refine returnsInHanded_of_change (C := Try.checked) own started (by kernel_rfl) Try.func5
    (ChangeSpec.witness6 (enc := enc) (C := Try.checked) false ⟨#[], #[.slice none 0 0], []⟩ 8 (by kernel_rfl) (by kernel_rfl) (by kernel_rfl) (by kernel_rfl)) ?_
  intro W base args ds gs before hval0 hW hcnd _
  have hval : ∀ (j : Nat) t v, Try.f5.params[j]? = some t → args[j]? = some v → Value.okWide Try.prog W .any base t v := hval0
  have hW' := hW
  obtain ⟨p, q, hA0, hV, rfl, hfz, hnd⟩ := hW
  have hA : DataW.TrodAll enc Try.prog W 0 (fun _ => true) true Try.f5.params.toList args.toList ds p := hA0
  rw [Try.params5] at hA hval
  obtain ⟨v0, vs0, d0, ds0, p0, q0, hargs, rfl, rfl, h0, r0⟩ := trodAll_cons hA
  obtain ⟨rfl, rfl, rfl⟩ := trodAll_nil r0
  obtain rfl : args = #[v0] := by cases args; simp_all
  obtain ⟨rfl, rfl⟩ := trodVars_none hV
  obtain ⟨a0, len0, cap0, rfl⟩ := okWide_slice Try.underlying22 (hval 0 22 v0 rfl rfl)
  have k0 := h0
  have lt0 : ∀ x ∈ p0, x.block < W.heap.size := by obtain ⟨m, hm⟩ := k0; exact DataW.trod_lt m _ _ _ hm
  obtain ⟨z0, w0⟩ : ∃ zs, IsRow .u8 W a0 len0 cap0 zs := by
    obtain ⟨fuel, hf⟩ := h0
    rcases open_ints Try.underlying22 Try.underlying5 (by kernel_rfl) hf with ⟨hcs, _⟩ | ⟨x, l, c, zs, hcs, _, hl, hm, hz, _, hcell, hwz⟩
    · simp [Value.cells] at hcs
      obtain ⟨rfl, rfl, rfl⟩ := hcs
      exact ⟨[], .inl ⟨rfl, rfl, rfl, rfl⟩⟩
    · simp [Value.cells] at hcs
      obtain ⟨rfl, rfl, rfl⟩ := hcs
      exact ⟨zs, .inr ⟨_, rfl, hl, hm, by simpa using hz, hcell, hwz⟩⟩
  clear hA0 hval0
  refine (walk a0 len0 cap0 z0 W w0).mono fun e W' ⟨he, bel⟩ => ?_
  subst he
  exact ⟨_, rfl, _, _, _, [], _, [], hW', trodAll_mk1 (shut_bool Try.underlying4 _), (trodAll_cons_mk (Below.trod laidOut (by kernel_rfl) (of_decide_eq_true (by kernel_rfl)) k0 bel lt0) trodAll_mk0), rfl, bel.frame _, fun h => by cases h⟩

theorem over : Rows.fnFoundRow.holds Try.pinned (OpenSpec.ofChange Rows.fnFoundSpec) :=
  OpenClaim.holds_of_wide 5 Try.f5 rfl rfl rfl rfl rfl rfl rfl ⟨rfl, rfl, rfl, rfl, rfl⟩ rfl rfl rfl rfl rfl (by kernel_rfl) Try.func5 (by kernel_rfl)
    (of_decide_eq_true (by kernel_rfl)) (by unfold Func.isWrapper; first | (rw [if_pos (by decide +kernel)]; kernel_rfl) | (rw [if_neg (by decide +kernel)]; exact ⟨rfl, rfl⟩))
    (fun os started H enc _ => lifted os started H enc)

theorem proved : Rows.FnFoundSaid := over
#print axioms proved
end Go.Proofs.Ytkckhklllcggeaa.fnFound
