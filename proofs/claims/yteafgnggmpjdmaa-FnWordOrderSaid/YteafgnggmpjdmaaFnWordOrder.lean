/-
  FnWordOrder: at every two codes the law that of two drawn numbers that are not below 0 the greater one has the greater bytes returns true, and the codes read as before; no condition.
-/
import Derived.Test.YteafgnggmpjdmaaRows
import Derived.WalkKit
import Derived.WalkSpells
import Derived.WalkLawsBesides
import Derived.Handy
import Derived.Outline
import Derived.BigQuiet
import Derived.Deep.QuietTactic
import Derived.Test.YteafgnggmpjdmaaWb
import Derived.Test.YteafgnggmpjdmaaRd2
import Derived.ProofKit
import Derived.OpenShut
import Derived.ShutString
import Derived.ChangeOld
import Derived.Below
namespace Go.Proofs.Yteafgnggmpjdmaa.fnWordOrder
open Go.ChangeShapes Go.WideShapes Go.ChangeAt Go.RowKit
open Go.ChangeMaps (open_string shut_string)
set_option linter.unusedVariables false
open wmath wb rd

theorem own : ownKnob Try.prog.godebug = none := by kernel_rfl
theorem laidOut : laidOutB Try.prog = true := by kernel_rfl

/-- WHAT THE WALK IS TOLD OF A SLICE OF INTEGERS THAT CAME IN: it is nil; or it leads to a row of 'cap' cells, the numbers 'zs' (the first 'len' are its elements, the rest its spare room), each fitting its kind. -/
def IsRow (k : IntKind) (w : World) (a : Option Addr) (len cap : Nat) (zs : List Int) : Prop :=
  (a = none ∧ len = 0 ∧ cap = 0 ∧ zs = []) ∨
  ∃ x, a = some x ∧ len ≤ cap ∧ cap ≤ maxLen ∧ zs.length = cap ∧ (∀ i, i < zs.length → w.cell? (x.add i) = some (.int k (zs.getD i 0))) ∧ ∀ n ∈ zs, (Lit.int k n).wf = true


theorem walk (a0 : Option Addr) (len0 cap0 : Nat) (z0 : List Int) (a1 : Option Addr) (len1 cap1 : Nat) (z1 : List Int) (w : World) (w0 : IsRow .u8 w a0 len0 cap0 z0) (w1 : IsRow .u8 w a1 len1 cap1 z1) :
    Calls Try.prog 4 #[.slice a0 len0 cap0, .slice a1 len1 cap1] w fun e w' => e = .returned (.bool true) ∧ Below w.heap.size w w' := by
  have c0 := code_of w0
  have c1 := code_of w1
  clear w0 w1
  by_cases hb0 : 1048576 < len0
  · go_enter Try.func4, Try.ntmps4
    go_wp2_with fail
    refine (big_yes _ a0 len0 cap0 hb0).mono ?_
    rintro e w' ⟨rfl, rfl⟩
    go_wp2
    go_ret
    exact ⟨rfl, Below.refl _ _⟩
  · by_cases hb1 : 1048576 < len1
    · go_enter Try.func4, Try.ntmps4
      go_wp2_with fail
      refine (big_no _ a0 len0 cap0 (by omega)).mono ?_
      rintro e w' ⟨rfl, rfl⟩
      go_wp2_with fail
      refine (big_yes _ a1 len1 cap1 hb1).mono ?_
      rintro e w' ⟨rfl, rfl⟩
      go_wp2
      go_ret
      exact ⟨rfl, Below.refl _ _⟩
    · have HC1 : Hid (RdCode w w.heap.size a1 len1) := c1
      have HC0 : Hid (RdCode w w.heap.size a0 len0) := c0
      clear c0 c1
      go_enter Try.func4, Try.ntmps4
      go_wp2_with fail
      refine (big_no _ a0 len0 cap0 (by omega)).mono ?_
      rintro e w' ⟨rfl, rfl⟩
      go_wp2_with fail
      refine (big_no _ a1 len1 cap1 (by omega)).mono ?_
      rintro e w' ⟨rfl, rfl⟩
      go_wp2_with fail
      refine (draw_word _ a0 len0 cap0 (by omega) HC0.out).mono ?_
      rintro e wa ⟨a, rfl, ha, hba⟩
      have hsza := hba.size
      go_wp2_with fail
      refine (draw_word _ a1 len1 cap1 (by omega) (HC1.out.below hba hsza)).mono ?_
      rintro e wb ⟨b, rfl, hb, hbb⟩
      have bda := bounds_i64 ha
      have bdb := bounds_i64 hb
      have B2 : Hid (Below w.heap.size w wb ∧ w.heap.size ≤ wb.heap.size) := ⟨hba.trans (hbb.mono hsza), Nat.le_trans hsza hbb.size⟩
      clear hba hbb hsza ha hb
      have him := impl_word a
      have hib := impl_word b
      have hsp := spec_word a
      by_cases hneg : a < 0 ∨ b < 0
      · generalize wordStr (IntKind.u64.wrap a) = s at him hsp
        have hss : (s.toList == s.toList) = true := by simp
        have HI : Hid (∀ w, _) := him
        have HS : Hid (∀ w, _) := hsp
        clear him hsp hib bda bdb
        by_cases hna : a < 0
        · go_wp2_with fail
          refine (HI.out _).mono ?_
          rintro e wc ⟨rfl, hb1⟩
          go_wp2_with fail
          refine (HS.out _).mono ?_
          rintro e wd ⟨rfl, hb2⟩
          go_wp2
          go_ret
          exact ⟨by simp, B2.out.1.trans ((hb1.trans (hb2.mono hb1.size)).mono B2.out.2)⟩
        · have hnb : b < 0 := by omega
          go_wp2_with fail
          refine (HI.out _).mono ?_
          rintro e wc ⟨rfl, hb1⟩
          go_wp2_with fail
          refine (HS.out _).mono ?_
          rintro e wd ⟨rfl, hb2⟩
          go_wp2
          go_ret
          exact ⟨by simp, B2.out.1.trans ((hb1.trans (hb2.mono hb1.size)).mono B2.out.2)⟩
      · have hna : ¬ a < 0 := by omega
        have hnb : ¬ b < 0 := by omega
        have ea : IntKind.u64.wrap a = a := by rw [IntKind.wrap_u64]; omega
        have eb : IntKind.u64.wrap b = b := by rw [IntKind.wrap_u64]; omega
        rw [ea] at him
        rw [eb] at hib
        have hsz := wordStr_size a
        have hless := word_less a b (by omega) (by omega) (by omega) (by omega)
        generalize wordStr a = s at him hsz hless
        generalize wordStr b = t at hib hless
        have HI : Hid (∀ w, _) := him
        have HT : Hid (∀ w, _) := hib
        clear him hib hsp hneg ea eb bda bdb
        go_wp2_with fail
        refine (HI.out _).mono ?_
        rintro e wc ⟨rfl, hb1⟩
        go_wp2_with fail
        refine (HT.out _).mono ?_
        rintro e wd ⟨rfl, hb2⟩
        by_cases hab : a < b
        all_goals
          go_wp2_with fail
          refine (HI.out _).mono ?_
          rintro e we ⟨rfl, hb3⟩
          go_wp2
          go_ret
          exact ⟨by simp, B2.out.1.trans ((hb1.trans ((hb2.trans (hb3.mono hb2.size)).mono hb1.size)).mono B2.out.2)⟩

set_option maxRecDepth 100000 in
theorem lifted (os : Os) (started : os.Started) (H : Type) (enc : TypeId × Value → H) :
    ReturnsInHanded {} Try.checked os 4 .any (Rows.fnWordOrderSpec.pre6 enc Try.prog Try.f4 Rows.fnWordOrderRow.domain false) (Rows.fnWordOrderSpec.post enc Try.prog Try.f4 false true false false) := by
  refine returnsInHanded_of_change (C := Try.checked) own started (by kernel_rfl) Try.func4
    (ChangeSpec.witness6 (enc := enc) (C := Try.checked) false ⟨#[], #[.slice none 0 0, .slice none 0 0], []⟩ 8 (by kernel_rfl) (by kernel_rfl) (by kernel_rfl) (by kernel_rfl)) ?_
  intro W base args ds gs before hval0 hW hcnd _
  have hval : ∀ (j : Nat) t v, Try.f4.params[j]? = some t → args[j]? = some v → Value.okWide Try.prog W .any base t v := hval0
  have hW' := hW
  obtain ⟨p, q, hA0, hV, rfl, hfz, hnd⟩ := hW
  have hA : DataW.TrodAll enc Try.prog W 0 (fun _ => true) true Try.f4.params.toList args.toList ds p := hA0
  rw [Try.params4] at hA hval
  obtain ⟨v0, vs0, d0, ds0, p0, q0, hargs, rfl, rfl, h0, r0⟩ := trodAll_cons hA
  obtain ⟨v1, vs1, d1, ds1, p1, q1, rfl, rfl, rfl, h1, r1⟩ := trodAll_cons r0
  obtain ⟨rfl, rfl, rfl⟩ := trodAll_nil r1
  obtain rfl : args = #[v0, v1] := by cases args; simp_all
  obtain ⟨rfl, rfl⟩ := trodVars_none hV
  obtain ⟨a0, len0, cap0, rfl⟩ := okWide_slice Try.underlying22 (hval 0 22 v0 rfl rfl)
  have k0 := h0
  have lt0 : ∀ x ∈ p0, x.block < W.heap.size := by obtain ⟨m, hm⟩ := k0; exact DataW.trod_lt m _ _ _ hm
  obtain ⟨z0, w0⟩ : ∃ zs, IsRow .u8 W a0 len0 cap0 zs := by
    obtain ⟨fuel, hf⟩ := h0
    rcases open_ints Try.underlying22 Try.underlying5 (by kernel_rfl) hf with ⟨hcs, _⟩ | ⟨x, l, c, zs, hcs, _, hl, hm, hz, _, hcell, hwz⟩
    · simp [Value.cells] at hcs
      obtain ⟨rfl, rfl, rfl⟩ := hcs
      exact ⟨[], .inl ⟨rfl, rfl, rfl, rfl⟩⟩
    · simp [Value.cells] at hcs
      obtain ⟨rfl, rfl, rfl⟩ := hcs
      exact ⟨zs, .inr ⟨_, rfl, hl, hm, by simpa using hz, hcell, hwz⟩⟩
  obtain ⟨a1, len1, cap1, rfl⟩ := okWide_slice Try.underlying22 (hval 1 22 v1 rfl rfl)
  have k1 := h1
  have lt1 : ∀ x ∈ p1, x.block < W.heap.size := by obtain ⟨m, hm⟩ := k1; exact DataW.trod_lt m _ _ _ hm
  obtain ⟨z1, w1⟩ : ∃ zs, IsRow .u8 W a1 len1 cap1 zs := by
    obtain ⟨fuel, hf⟩ := h1
    rcases open_ints Try.underlying22 Try.underlying5 (by kernel_rfl) hf with ⟨hcs, _⟩ | ⟨x, l, c, zs, hcs, _, hl, hm, hz, _, hcell, hwz⟩
    · simp [Value.cells] at hcs
      obtain ⟨rfl, rfl, rfl⟩ := hcs
      exact ⟨[], .inl ⟨rfl, rfl, rfl, rfl⟩⟩
    · simp [Value.cells] at hcs
      obtain ⟨rfl, rfl, rfl⟩ := hcs
      exact ⟨zs, .inr ⟨_, rfl, hl, hm, by simpa using hz, hcell, hwz⟩⟩
  clear hA0 hval0
  refine (walk a0 len0 cap0 z0 a1 len1 cap1 z1 W w0 w1).mono fun e W' ⟨he, bel⟩ => ?_
  subst he
  exact ⟨_, rfl, _, _, _, [], _, [], hW', trodAll_mk1 (shut_bool Try.underlying4 _), (trodAll_cons_mk (Below.trod laidOut (by kernel_rfl) (of_decide_eq_true (by kernel_rfl)) k0 bel lt0) (trodAll_cons_mk (Below.trod laidOut (by kernel_rfl) (of_decide_eq_true (by kernel_rfl)) k1 bel lt1) trodAll_mk0)), rfl, bel.frame _, fun h => by cases h⟩

theorem over : Rows.fnWordOrderRow.holds Try.pinned (OpenSpec.ofChange Rows.fnWordOrderSpec) :=
  OpenClaim.holds_of_wide 4 Try.f4 rfl rfl rfl rfl rfl rfl rfl ⟨rfl, rfl, rfl, rfl, rfl⟩ rfl rfl rfl rfl rfl (by kernel_rfl) Try.func4 (by kernel_rfl)
    (of_decide_eq_true (by kernel_rfl)) (by unfold Func.isWrapper; first | (rw [if_pos (by decide +kernel)]; kernel_rfl) | (rw [if_neg (by decide +kernel)]; exact ⟨rfl, rfl⟩))
    (fun os started H enc _ => lifted os started H enc)

theorem proved : Rows.FnWordOrderSaid := over
#print axioms proved
end Go.Proofs.Yteafgnggmpjdmaa.fnWordOrder
