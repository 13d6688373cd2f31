/-
  FnHalves: at every code the law that the halves of a drawn image, one behind the other, are the image, up to less than a half, returns true, and the code reads as before; no condition.
-/
import Derived.Test.YteafgnggmpjdmaaRows
import Derived.WalkKit
import Derived.WalkSpells
import Derived.WalkLawsBesides
import Derived.Handy
import Derived.Test.YteafgnggmpjdmaaHalf
import Derived.Test.YteafgnggmpjdmaaDrawH
import Derived.Lib.Strings
import Derived.ProofKit
import Derived.OpenShut
import Derived.ShutString
import Derived.ChangeOld
import Derived.Below
namespace Go.Proofs.Yteafgnggmpjdmaa.fnHalves
open Go.ChangeShapes Go.WideShapes Go.ChangeAt Go.RowKit
open Go.ChangeMaps (open_string shut_string)
set_option linter.unusedVariables false
open wmath rd half

theorem own : ownKnob Try.prog.godebug = none := by kernel_rfl
theorem laidOut : laidOutB Try.prog = true := by kernel_rfl

/-- WHAT THE WALK IS TOLD OF A SLICE OF INTEGERS THAT CAME IN: it is nil; or it leads to a row of 'cap' cells, the numbers 'zs' (the first 'len' are its elements, the rest its spare room), each fitting its kind. -/
def IsRow (k : IntKind) (w : World) (a : Option Addr) (len cap : Nat) (zs : List Int) : Prop :=
  (a = none ∧ len = 0 ∧ cap = 0 ∧ zs = []) ∨
  ∃ x, a = some x ∧ len ≤ cap ∧ cap ≤ maxLen ∧ zs.length = cap ∧ (∀ i, i < zs.length → w.cell? (x.add i) = some (.int k (zs.getD i 0))) ∧ ∀ n ∈ zs, (Lit.int k n).wf = true

theorem bytes_of {s t : ByteArray} (h : s.data.toList = t.data.toList) : s = t := by
  obtain ⟨⟨l⟩⟩ := s
  obtain ⟨⟨m⟩⟩ := t
  simp at h
  rw [h]
theorem cut_on (s : ByteArray) (k : Nat) : s.extract 0 (32 * k) ++ s.extract (k * 32) ((k + 1) * 32) = s.extract 0 (32 * (k + 1)) := by
  apply bytes_of
  rw [ByteArray.data_append, Array.toList_append, Lib.extract_data, Lib.extract_data, Lib.extract_data]
  rw [show k * 32 = 32 * k by omega, show (k + 1) * 32 - 32 * k = 32 by omega, show 32 * (k + 1) - 0 = 32 * k + 32 by omega, List.take_add]
  simp
theorem cut_none (s : ByteArray) : s.extract 0 (32 * 0) = ⟨#[]⟩ := by
  apply bytes_of
  rw [Lib.extract_data]
  simp
theorem walk (a0 : Option Addr) (len0 cap0 : Nat) (z0 : List Int) (w : World) (w0 : IsRow .u8 w a0 len0 cap0 z0) :
    Calls Try.prog 5 #[.slice a0 len0 cap0] w fun e w' => e = .returned (.bool true) ∧ Below w.heap.size w w' := by
  have c0 := code_of w0
  clear w0
  by_cases hb0 : 1048576 < len0
  · go_enter Try.func5, Try.ntmps5
    go_wp2_with fail
    refine (big_yes _ a0 len0 cap0 hb0).mono ?_
    rintro e w' ⟨rfl, rfl⟩
    go_wp2
    go_ret
    exact ⟨rfl, Below.refl _ _⟩
  have HC : Hid (RdCode w w.heap.size a0 len0) := c0
  clear c0
  go_enter Try.func5, Try.ntmps5
  go_wp2_with fail
  refine (big_no _ a0 len0 cap0 (by omega)).mono ?_
  rintro e w' ⟨rfl, rfl⟩
  go_wp2_with fail
  refine (draw_half _ a0 len0 cap0 (by omega) HC.out).mono ?_
  rintro e w1 ⟨s, n, rfl, hs, hb⟩
  have HB : Hid (Below w.heap.size w w1) := hb
  clear hb
  go_wp2
  go_loop [5, 6] (fun t i => ∃ k : Nat, 32 * k ≤ s.size ∧ i = .int .i64 k ∧ t = .string (s.extract 0 (32 * k))) (fun _ i => 1000 - (intOf i).toNat)
  case atStart => exact ⟨0, by omega, rfl, by rw [cut_none]⟩
  case round =>
    obtain ⟨k, hk, rfl, rfl⟩ := hrel
    have hz : (s.extract 0 (32 * k)).size = 32 * k := by simp; omega
    by_cases hlt : 32 * k + 32 ≤ s.size
    · have hlt' : 32 * (k : Int) + 32 ≤ (s.size : Int) := by omega
      have HCut := cut_on s k
      have hzz : (s.extract (k * 32) ((k + 1) * 32)).size = 32 := by simp; omega
      have HH : Hid (∀ w, _) := fun w => half_in s k w (by omega) hlt
      generalize s.extract 0 (32 * k) = t at hz HCut ⊢
      generalize s.extract (k * 32) ((k + 1) * 32) = u at HCut hzz HH
      have HU : Hid (t ++ u = s.extract 0 (32 * (k + 1))) := HCut
      clear HCut
      have hsum : t.size + u.size ≤ 1000 := by omega
      go_wp2_with fail
      refine (HH.out _).mono ?_
      rintro e w' ⟨rfl, rfl⟩
      go_wp2
      refine ⟨⟨k + 1, by omega, by go_num, by rw [HU.out]⟩, by simp [intOf]; omega⟩
    · have hlt' : ¬ 32 * (k : Int) + 32 ≤ (s.size : Int) := by omega
      have hk2 : (s.size : Int) / 32 * 32 = 32 * (k : Int) := by omega
      have HO : Hid (∀ w, _) := fun w => half_out s ((s.size : Int) / 32) w (by omega) (.inr (by omega))
      have HM : Hid (∀ w, _) := fun w => half_out s (-1) w (by omega) (.inl (by omega))
      have heq : (((32 * k : Nat) : Int) == (s.size : Int) / 32 * 32) = true := by simp; omega
      have hsk : ∀ W, (Instr.slice 9 (.string s) none (some (.int .i64 ((32 * k : Nat) : Int))) none).run Try.prog W = .ok (.string (s.extract 0 (32 * k))) W := by
        intro W
        rw [run_slice_string_to_if W 9 s .i64 _ Try.underlying9, if_pos (by omega)]
        rfl
      have hkb : (k : Int) ≤ 100 := by omega
      generalize s.extract 0 (32 * k) = t at hz hsk ⊢
      generalize hm : 32 * k = m at hz hsk heq hk
      have htt : (t.toList == t.toList) = true := by simp
      have HK : Hid (32 * k = m) := hm
      clear hm hk2
      go_wp2_with fail
      refine (HO.out _).mono ?_
      rintro e w' ⟨rfl, rfl⟩
      go_wp2_with fail
      refine (HM.out _).mono ?_
      rintro e w' ⟨rfl, rfl⟩
      go_wp2
      go_ret
      exact ⟨rfl, HB.out⟩

set_option maxRecDepth 100000 in
theorem lifted (os : Os) (started : os.Started) (H : Type) (enc : TypeId × Value → H) :
    ReturnsInHanded {} Try.checked os 5 .any (Rows.fnHalvesSpec.pre6 enc Try.prog Try.f5 Rows.fnHalvesRow.domain false) (Rows.fnHalvesSpec.post enc Try.prog Try.f5 false true false false) := by
  refine returnsInHanded_of_change (C := Try.checked) own started (by kernel_rfl) Try.func5
    (ChangeSpec.witness6 (enc := enc) (C := Try.checked) false ⟨#[], #[.slice none 0 0], []⟩ 8 (by kernel_rfl) (by kernel_rfl) (by kernel_rfl) (by kernel_rfl)) ?_
  intro W base args ds gs before hval0 hW hcnd _
  have hval : ∀ (j : Nat) t v, Try.f5.params[j]? = some t → args[j]? = some v → Value.okWide Try.prog W .any base t v := hval0
  have hW' := hW
  obtain ⟨p, q, hA0, hV, rfl, hfz, hnd⟩ := hW
  have hA : DataW.TrodAll enc Try.prog W 0 (fun _ => true) true Try.f5.params.toList args.toList ds p := hA0
  rw [Try.params5] at hA hval
  obtain ⟨v0, vs0, d0, ds0, p0, q0, hargs, rfl, rfl, h0, r0⟩ := trodAll_cons hA
  obtain ⟨rfl, rfl, rfl⟩ := trodAll_nil r0
  obtain rfl : args = #[v0] := by cases args; simp_all
  obtain ⟨rfl, rfl⟩ := trodVars_none hV
  obtain ⟨a0, len0, cap0, rfl⟩ := okWide_slice Try.underlying22 (hval 0 22 v0 rfl rfl)
  have k0 := h0
  have lt0 : ∀ x ∈ p0, x.block < W.heap.size := by obtain ⟨m, hm⟩ := k0; exact DataW.trod_lt m _ _ _ hm
  obtain ⟨z0, w0⟩ : ∃ zs, IsRow .u8 W a0 len0 cap0 zs := by
    obtain ⟨fuel, hf⟩ := h0
    rcases open_ints Try.underlying22 Try.underlying5 (by kernel_rfl) hf with ⟨hcs, _⟩ | ⟨x, l, c, zs, hcs, _, hl, hm, hz, _, hcell, hwz⟩
    · simp [Value.cells] at hcs
      obtain ⟨rfl, rfl, rfl⟩ := hcs
      exact ⟨[], .inl ⟨rfl, rfl, rfl, rfl⟩⟩
    · simp [Value.cells] at hcs
      obtain ⟨rfl, rfl, rfl⟩ := hcs
      exact ⟨zs, .inr ⟨_, rfl, hl, hm, by simpa using hz, hcell, hwz⟩⟩
  clear hA0 hval0
  refine (walk a0 len0 cap0 z0 W w0).mono fun e W' ⟨he, bel⟩ => ?_
  subst he
  exact ⟨_, rfl, _, _, _, [], _, [], hW', trodAll_mk1 (shut_bool Try.underlying4 _), (trodAll_cons_mk (Below.trod laidOut (by kernel_rfl) (of_decide_eq_true (by kernel_rfl)) k0 bel lt0) trodAll_mk0), rfl, bel.frame _, fun h => by cases h⟩

theorem over : Rows.fnHalvesRow.holds Try.pinned (OpenSpec.ofChange Rows.fnHalvesSpec) :=
  OpenClaim.holds_of_wide 5 Try.f5 rfl rfl rfl rfl rfl rfl rfl ⟨rfl, rfl, rfl, rfl, rfl⟩ rfl rfl rfl rfl rfl (by kernel_rfl) Try.func5 (by kernel_rfl)
    (of_decide_eq_true (by kernel_rfl)) (by unfold Func.isWrapper; first | (rw [if_pos (by decide +kernel)]; kernel_rfl) | (rw [if_neg (by decide +kernel)]; exact ⟨rfl, rfl⟩))
    (fun os started H enc _ => lifted os started H enc)

theorem proved : Rows.FnHalvesSaid := over
#print axioms proved
end Go.Proofs.Yteafgnggmpjdmaa.fnHalves
