/-
  FnExactReadShort: for every text the law that holds the program's ReadShort against the specification's ReadShort returns true, and the text reads as before; no condition.
-/
import Derived.Test.YteafgnggmpjdmacRows
import Derived.WalkKit
import Derived.WalkSpells
import Derived.BigQuiet
import Derived.Deep.QuietTactic
import Derived.Test.YteafgnggmpjdmacNum
import Derived.ProofKit
import Derived.OpenShut
import Derived.ShutString
namespace Go.Proofs.Yteafgnggmpjdmac.fnExactReadShort
open Go.ChangeShapes Go.WideShapes Go.ChangeAt Go.RowKit
open Go.ChangeMaps (open_string shut_string)
set_option linter.unusedVariables false
open wmath num

theorem own : ownKnob Try.prog.godebug = none := by kernel_rfl

theorem num_two (s : ByteArray) (hs : s.size = 2) : (num s.data.toList : Int) = (s[0].toNat : Int) * 256 + (s[1].toNat : Int) := by
  have h0 : num (s.data.toList.take 1) = 0 * 256 + s[0].toNat := num_take s 0 (by omega)
  have h1 : num (s.data.toList.take 2) = num (s.data.toList.take 1) * 256 + s[1].toNat := num_take s 1 (by omega)
  rw [List.take_of_length_le (l := s.data.toList) (by simp; omega)] at h1
  omega
set_option maxHeartbeats 400000 in
theorem spec_two (s : ByteArray) (w : World) (hs : s.size = 2) :
    Calls Try.prog 6 #[.string s] w fun e w' => e = .returned (.tuple #[.int .i64 (num s.data.toList), .bool true]) ∧ ∃ n, w' = w.drewN n := by
  rw [num_two s hs]
  have h2 : ((s.size : Int) != 2) = false := by simp; omega
  have h0 : 0 < s.size := by omega
  have h1 : 1 < s.size := by omega
  have hc0 := s[0].toNat_lt
  have hc1 := s[1].toNat_lt
  go_enter Try.func6, Try.ntmps6
  go_wp2
  go_quiet (fail)
  go_wp2
  go_ret2
  exact ⟨rfl, _, rfl⟩
set_option maxHeartbeats 400000 in
theorem impl_two (s : ByteArray) (w : World) (hs : s.size = 2) :
    Calls Try.prog 7 #[.string s] w fun e w' => e = .returned (.tuple #[.int .i64 (num s.data.toList), .bool true]) ∧ w' = w := by
  have hn := num_lt s.data.toList
  have hl : s.data.toList.length = 2 := by simpa using hs
  rw [hl] at hn
  have hb : num s.data.toList < 65536 := by simpa using hn
  clear hn hl
  have hc := numberOf_any s w (by omega)
  generalize num s.data.toList = m at hb hc ⊢
  have h2 : ((s.size : Int) != 2) = false := by simp; omega
  go_enter Try.func7, Try.ntmps7
  go_wp2_with fail
  refine hc.mono ?_
  rintro e w' ⟨rfl, rfl⟩
  go_wp2
  go_ret2
  exact ⟨rfl, rfl⟩
theorem walk (a0 : ByteArray) (w0 : a0.size ≤ maxLen) (w : World) :
    Calls Try.prog 3 #[.string a0] w fun e w' => e = .returned (.bool true) ∧ Grown w w' := by
  unfold maxLen at w0
  by_cases hbig : (1048576 : Int) < (a0.size : Int)
  · go_enter Try.func3, Try.ntmps3
    go_wp2
    go_ret
    exact ⟨rfl, Grown.refl _⟩
  · by_cases hs : a0.size = 2
    · go_enter Try.func3, Try.ntmps3
      go_wp2_with fail
      refine (spec_two a0 _ hs).mono ?_
      rintro e w' ⟨rfl, n, rfl⟩
      go_wp2_with fail
      refine (impl_two a0 _ hs).mono ?_
      rintro e w' ⟨rfl, rfl⟩
      go_wp2
      go_ret
      exact ⟨rfl, by repeat (first | exact Grown.refl _ | apply Grown.drew | apply Grown.alloc)⟩
    · have h2 : ((a0.size : Int) != 2) = true := by simp; omega
      go_enter Try.func3, Try.ntmps3
      go_wp2
      go_ret
      exact ⟨rfl, Grown.refl _⟩

set_option maxRecDepth 100000 in
theorem lifted (os : Os) (started : os.Started) (H : Type) (enc : TypeId × Value → H) :
    ReturnsInHanded {} Try.checked os 3 .any (Rows.fnExactReadShortSpec.pre6 enc Try.prog Try.f3 Rows.fnExactReadShortRow.domain false) (Rows.fnExactReadShortSpec.post enc Try.prog Try.f3 false true false false) := by
  refine returnsInHanded_of_change (C := Try.checked) own started (by kernel_rfl) Try.func3
    (ChangeSpec.witness6 (enc := enc) (C := Try.checked) false ⟨#[], #[.string ByteArray.empty], []⟩ 8 (by kernel_rfl) (by kernel_rfl) (by kernel_rfl) (by kernel_rfl)) ?_
  intro W base args ds gs before hval0 hW hcnd _
  have hval : ∀ (j : Nat) t v, Try.f3.params[j]? = some t → args[j]? = some v → Value.okWide Try.prog W .any base t v := hval0
  have hW' := hW
  obtain ⟨p, q, hA0, hV, rfl, hfz, hnd⟩ := hW
  have hA : DataW.TrodAll enc Try.prog W 0 (fun _ => true) true Try.f3.params.toList args.toList ds p := hA0
  rw [Try.params3] at hA hval
  obtain ⟨v0, vs0, d0, ds0, p0, q0, hargs, rfl, rfl, h0, r0⟩ := trodAll_cons hA
  obtain ⟨rfl, rfl, rfl⟩ := trodAll_nil r0
  obtain rfl : args = #[v0] := by cases args; simp_all
  obtain ⟨rfl, rfl⟩ := trodVars_none hV
  obtain ⟨a0, rfl, rfl, rfl, w0⟩ := open_string Try.underlying9 (hval 0 9 v0 rfl rfl) h0
  clear hA0 hval0
  simp only [List.append_nil] at hW'
  refine (walk a0 w0 W).mono fun e W' ⟨he, hg⟩ => ?_
  subst he
  exact ⟨_, rfl, post_of_same (pa := []) (pv := []) hW' (fun _ _ _ => (trodAll_cons_mk (shut_bool Try.underlying4 _) trodAll_mk0)) (fun sp _ => (trodAll_cons_mk (shut_string Try.underlying9 w0) trodAll_mk0)) (fun _ _ => rfl) rfl
    (hg.frame _) hg.2.1 (ok_one (by kernel_rfl) rfl (okWide_bool_mk Try.underlying4 _))⟩

theorem over : Rows.fnExactReadShortRow.holds Try.pinned (OpenSpec.ofChange Rows.fnExactReadShortSpec) :=
  OpenClaim.holds_of_wide 3 Try.f3 rfl rfl rfl rfl rfl rfl rfl ⟨rfl, rfl, rfl, rfl, rfl⟩ rfl rfl rfl rfl rfl (by kernel_rfl) Try.func3 (by kernel_rfl)
    (of_decide_eq_true (by kernel_rfl)) (by unfold Func.isWrapper; first | (rw [if_pos (by decide +kernel)]; kernel_rfl) | (rw [if_neg (by decide +kernel)]; exact ⟨rfl, rfl⟩))
    (fun os started H enc _ => lifted os started H enc)

theorem proved : Rows.FnExactReadShortSaid :=
  over
#print axioms proved
end Go.Proofs.Yteafgnggmpjdmac.fnExactReadShort
