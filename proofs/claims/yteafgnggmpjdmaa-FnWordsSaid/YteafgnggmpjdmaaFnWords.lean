/-
  FnWords: at every code the law that numbers come back from their eight and two bytes, and such bytes from their numbers, returns true, and the code reads as before; no condition.
-/
import Derived.Test.YteafgnggmpjdmaaRows
import Derived.WalkKit
import Derived.WalkSpells
import Derived.WalkLawsBesides
import Derived.Handy
import Derived.Test.YteafgnggmpjdmaaWBack
import Derived.Test.YteafgnggmpjdmaaNumRead
import Derived.Test.YteafgnggmpjdmaaDrawW
import Derived.ProofKit
import Derived.OpenShut
import Derived.ShutString
import Derived.ChangeOld
import Derived.Below
namespace Go.Proofs.Yteafgnggmpjdmaa.fnWords
open Go.ChangeShapes Go.WideShapes Go.ChangeAt Go.RowKit
open Go.ChangeMaps (open_string shut_string)
set_option linter.unusedVariables false
open wmath wb rd num

theorem own : ownKnob Try.prog.godebug = none := by kernel_rfl
theorem laidOut : laidOutB Try.prog = true := by kernel_rfl

/-- WHAT THE WALK IS TOLD OF A SLICE OF INTEGERS THAT CAME IN: it is nil; or it leads to a row of 'cap' cells, the numbers 'zs' (the first 'len' are its elements, the rest its spare room), each fitting its kind. -/
def IsRow (k : IntKind) (w : World) (a : Option Addr) (len cap : Nat) (zs : List Int) : Prop :=
  (a = none ∧ len = 0 ∧ cap = 0 ∧ zs = []) ∨
  ∃ x, a = some x ∧ len ≤ cap ∧ cap ≤ maxLen ∧ zs.length = cap ∧ (∀ i, i < zs.length → w.cell? (x.add i) = some (.int k (zs.getD i 0))) ∧ ∀ n ∈ zs, (Lit.int k n).wf = true

theorem walk (a0 : Option Addr) (len0 cap0 : Nat) (z0 : List Int) (w : World) (w0 : IsRow .u8 w a0 len0 cap0 z0) :
    Calls Try.prog 3 #[.slice a0 len0 cap0] w fun e w' => e = .returned (.bool true) ∧ Below w.heap.size w w' := by
  have c0 := code_of w0
  clear w0
  by_cases hb0 : 1048576 < len0
  · go_enter Try.func3, Try.ntmps3
    go_wp2_with fail
    refine (big_yes _ a0 len0 cap0 hb0).mono ?_
    rintro e w' ⟨rfl, rfl⟩
    go_wp2
    go_ret
    exact ⟨rfl, Below.refl _ _⟩
  have HC : Hid (RdCode w w.heap.size a0 len0) := c0
  clear c0
  go_enter Try.func3, Try.ntmps3
  go_wp2_with fail
  refine (big_no _ a0 len0 cap0 (by omega)).mono ?_
  rintro e w' ⟨rfl, rfl⟩
  go_wp2_with fail
  refine (draw_word _ a0 len0 cap0 (by omega) HC.out).mono ?_
  rintro e w1 ⟨n, rfl, hn, hb⟩
  have HB1 : Hid (Below w.heap.size w w1) := hb
  clear hb
  go_wp2_with fail
  refine (draw_read_word _ a0 len0 cap0 (by omega) (HC.out.below HB1.out HB1.out.size)).mono ?_
  rintro e w2 ⟨s, rfl, hs, hb⟩
  have HB2 : Hid (Below w.heap.size w w2) := HB1.out.trans (hb.mono HB1.out.size)
  clear hb
  go_wp2_with fail
  refine (draw_short _ a0 len0 cap0 (by omega) (HC.out.below HB2.out HB2.out.size)).mono ?_
  rintro e w3 ⟨k, rfl, hk, hb⟩
  have HB3 : Hid (Below w.heap.size w w3) := HB2.out.trans (hb.mono HB2.out.size)
  clear hb
  go_wp2_with fail
  refine (draw_read_short _ a0 len0 cap0 (by omega) (HC.out.below HB3.out HB3.out.size)).mono ?_
  rintro e w4 ⟨t, rfl, ht, hb⟩
  have HB4 : Hid (Below w.heap.size w w4) := HB3.out.trans (hb.mono HB3.out.size)
  clear hb
  have bdn := bounds_i64 hn
  have bdk := bounds_i64 hk
  clear hn hk
  have hw := impl_word n
  have hz := wordStr_size (IntKind.u64.wrap n)
  have hnum : wrap64 (num (wordStr (IntKind.u64.wrap n)).data.toList) = n := by
    rw [num_wordStr (IntKind.u64.wrap n) (wrap_nonneg n) (by rw [IntKind.wrap_u64]; omega)]
    exact back_wrap n bdn.1 bdn.2
  generalize wordStr (IntKind.u64.wrap n) = sn at hw hz hnum
  have HW : Hid (∀ w, _) := hw
  have HRN : Hid (∀ w, _) := fun w => read_word sn w hz
  rw [hnum] at HRN
  clear hw hnum hz bdn
  go_wp2_with fail
  refine (HW.out _).mono ?_
  rintro e w5 ⟨rfl, hb⟩
  have HB5 : Hid (Below w.heap.size w w5) := HB4.out.trans (hb.mono HB4.out.size)
  clear hb
  go_wp2_with fail
  refine (HRN.out _).mono ?_
  rintro e w' ⟨rfl, rfl⟩
  have hnn : (n != n) = false := by simp
  by_cases h8 : s.size = 8
  · have h8b : ((s.size : Int) == 8) = true := by simp; omega
    have hback : wordStr (IntKind.u64.wrap (wrap64 (num s.data.toList))) = s := by
      have hlt := num_lt s.data.toList
      rw [show s.data.toList.length = 8 by simpa using h8] at hlt
      rw [wrap_back _ (by simpa using hlt)]
      exact wordStr_back s h8
    have hw8 := impl_word (wrap64 (num s.data.toList))
    rw [hback] at hw8
    have hr8 := fun w => read_word s w h8
    generalize wrap64 (num s.data.toList) = b at hw8 hr8
    have HW8 : Hid (∀ w, _) := hw8
    have HR8 : Hid (∀ w, _) := hr8
    have HS8 : Hid (s.size = 8) := h8
    clear hw8 hr8 hback h8
    have hss : (s.toList == s.toList) = true := by simp
    go_wp2_with fail
    refine (HR8.out _).mono ?_
    rintro e w' ⟨rfl, rfl⟩
    by_cases h2 : t.size = 2
    · have h2b : ((t.size : Int) == 2) = true := by simp; omega
      have hlt2 : num t.data.toList < 65536 := by
        have hlt := num_lt t.data.toList
        rw [show t.data.toList.length = 2 by simpa using h2] at hlt
        simpa using hlt
      have hback2 : shortStr (num t.data.toList) = t := shortStr_back t h2
      have hw2 := fun w => impl_short_in (num t.data.toList) w (by omega) (by omega)
      rw [hback2] at hw2
      have hr2 := fun w => read_short t w h2
      generalize num t.data.toList = c at hw2 hr2
      have HW2 : Hid (∀ w, _) := hw2
      have HR2 : Hid (∀ w, _) := hr2
      clear hw2 hr2 hback2 h2 hlt2
      have htt : (t.toList == t.toList) = true := by simp
      go_wp2_with fail
      refine (HR2.out _).mono ?_
      rintro e w' ⟨rfl, rfl⟩
      go_wp2_with fail
      refine (HW8.out _).mono ?_
      rintro e w6 ⟨rfl, hb⟩
      have HB6 : Hid (Below w.heap.size w w6) := HB5.out.trans (hb.mono HB5.out.size)
      clear hb
      go_wp2_with fail
      refine (HW2.out _).mono ?_
      rintro e w7 ⟨rfl, hb⟩
      have HB7 : Hid (Below w.heap.size w w7) := HB6.out.trans (hb.mono HB6.out.size)
      clear hb
      by_cases hin : 0 ≤ k ∧ k ≤ 65535
      · obtain ⟨hk0, hk1⟩ := hin
        have hd1 : decide (k ≤ 65535) = true := by simp; omega
        have hd0 : decide (0 ≤ k) = true := by simp; omega
        have hu := fun w => impl_short_in k w hk0 hk1
        have hz : (shortStr k).size = 2 := rfl
        have hnum := num_shortStr k hk0 hk1
        generalize shortStr k = u at hu hz hnum
        have HU : Hid (∀ w, _) := hu
        have HRU : Hid (∀ w, _) := fun w => read_short u w hz
        rw [hnum] at HRU
        clear hu hz hnum bdk
        have hkk : (k == k) = true := by simp
        go_wp2_with fail
        refine (HU.out _).mono ?_
        rintro e w9 ⟨rfl, hb⟩
        have HB9 : Hid (Below w.heap.size w w9) := HB7.out.trans (hb.mono HB7.out.size)
        clear hb
        go_wp2_with fail
        refine (HRU.out _).mono ?_
        rintro e w' ⟨rfl, rfl⟩
        go_wp2
        go_ret
        exact ⟨rfl, HB9.out⟩
      · have hout : k < 0 ∨ 65535 < k := by omega
        clear hin bdk
        go_wp2_with fail
        refine (impl_short_out k _ hout).mono ?_
        rintro e w' ⟨rfl, rfl⟩
        go_wp2_with fail
        refine (read_short_no ⟨#[]⟩ _ (by decide) (by decide)).mono ?_
        rintro e w' ⟨rfl, rfl⟩
        rcases hout with hout | hout
        · go_wp2
          go_ret
          exact ⟨rfl, HB7.out⟩
        · have hd0 : decide (0 ≤ k) = true := by simp; omega
          have hd1 : decide (k ≤ 65535) = false := by simp; omega
          go_wp2
          go_ret
          exact ⟨rfl, HB7.out⟩
    · have h2b : ((t.size : Int) == 2) = false := by simp; omega
      go_wp2_with fail
      refine (read_short_no t _ h2 (by omega)).mono ?_
      rintro e w' ⟨rfl, rfl⟩
      go_wp2_with fail
      refine (HW8.out _).mono ?_
      rintro e w6 ⟨rfl, hb⟩
      have HB6 : Hid (Below w.heap.size w w6) := HB5.out.trans (hb.mono HB5.out.size)
      clear hb
      by_cases hin : 0 ≤ k ∧ k ≤ 65535
      · obtain ⟨hk0, hk1⟩ := hin
        have hd1 : decide (k ≤ 65535) = true := by simp; omega
        have hd0 : decide (0 ≤ k) = true := by simp; omega
        have hu := fun w => impl_short_in k w hk0 hk1
        have hz : (shortStr k).size = 2 := rfl
        have hnum := num_shortStr k hk0 hk1
        generalize shortStr k = u at hu hz hnum
        have HU : Hid (∀ w, _) := hu
        have HRU : Hid (∀ w, _) := fun w => read_short u w hz
        rw [hnum] at HRU
        clear hu hz hnum bdk
        have hkk : (k == k) = true := by simp
        go_wp2_with fail
        refine (HU.out _).mono ?_
        rintro e w9 ⟨rfl, hb⟩
        have HB9 : Hid (Below w.heap.size w w9) := HB6.out.trans (hb.mono HB6.out.size)
        clear hb
        go_wp2_with fail
        refine (HRU.out _).mono ?_
        rintro e w' ⟨rfl, rfl⟩
        go_wp2
        go_ret
        exact ⟨rfl, HB9.out⟩
      · have hout : k < 0 ∨ 65535 < k := by omega
        clear hin bdk
        go_wp2_with fail
        refine (impl_short_out k _ hout).mono ?_
        rintro e w' ⟨rfl, rfl⟩
        go_wp2_with fail
        refine (read_short_no ⟨#[]⟩ _ (by decide) (by decide)).mono ?_
        rintro e w' ⟨rfl, rfl⟩
        rcases hout with hout | hout
        · go_wp2
          go_ret
          exact ⟨rfl, HB6.out⟩
        · have hd0 : decide (0 ≤ k) = true := by simp; omega
          have hd1 : decide (k ≤ 65535) = false := by simp; omega
          go_wp2
          go_ret
          exact ⟨rfl, HB6.out⟩
  · have h8b : ((s.size : Int) == 8) = false := by simp; omega
    go_wp2_with fail
    refine (read_word_no s _ h8 (by omega)).mono ?_
    rintro e w' ⟨rfl, rfl⟩
    by_cases h2 : t.size = 2
    · have h2b : ((t.size : Int) == 2) = true := by simp; omega
      have hlt2 : num t.data.toList < 65536 := by
        have hlt := num_lt t.data.toList
        rw [show t.data.toList.length = 2 by simpa using h2] at hlt
        simpa using hlt
      have hback2 : shortStr (num t.data.toList) = t := shortStr_back t h2
      have hw2 := fun w => impl_short_in (num t.data.toList) w (by omega) (by omega)
      rw [hback2] at hw2
      have hr2 := fun w => read_short t w h2
      generalize num t.data.toList = c at hw2 hr2
      have HW2 : Hid (∀ w, _) := hw2
      have HR2 : Hid (∀ w, _) := hr2
      clear hw2 hr2 hback2 h2 hlt2
      have htt : (t.toList == t.toList) = true := by simp
      go_wp2_with fail
      refine (HR2.out _).mono ?_
      rintro e w' ⟨rfl, rfl⟩
      go_wp2_with fail
      refine (HW2.out _).mono ?_
      rintro e w7 ⟨rfl, hb⟩
      have HB7 : Hid (Below w.heap.size w w7) := HB5.out.trans (hb.mono HB5.out.size)
      clear hb
      by_cases hin : 0 ≤ k ∧ k ≤ 65535
      · obtain ⟨hk0, hk1⟩ := hin
        have hd1 : decide (k ≤ 65535) = true := by simp; omega
        have hd0 : decide (0 ≤ k) = true := by simp; omega
        have hu := fun w => impl_short_in k w hk0 hk1
        have hz : (shortStr k).size = 2 := rfl
        have hnum := num_shortStr k hk0 hk1
        generalize shortStr k = u at hu hz hnum
        have HU : Hid (∀ w, _) := hu
        have HRU : Hid (∀ w, _) := fun w => read_short u w hz
        rw [hnum] at HRU
        clear hu hz hnum bdk
        have hkk : (k == k) = true := by simp
        go_wp2_with fail
        refine (HU.out _).mono ?_
        rintro e w9 ⟨rfl, hb⟩
        have HB9 : Hid (Below w.heap.size w w9) := HB7.out.trans (hb.mono HB7.out.size)
        clear hb
        go_wp2_with fail
        refine (HRU.out _).mono ?_
        rintro e w' ⟨rfl, rfl⟩
        go_wp2
        go_ret
        exact ⟨rfl, HB9.out⟩
      · have hout : k < 0 ∨ 65535 < k := by omega
        clear hin bdk
        go_wp2_with fail
        refine (impl_short_out k _ hout).mono ?_
        rintro e w' ⟨rfl, rfl⟩
        go_wp2_with fail
        refine (read_short_no ⟨#[]⟩ _ (by decide) (by decide)).mono ?_
        rintro e w' ⟨rfl, rfl⟩
        rcases hout with hout | hout
        · go_wp2
          go_ret
          exact ⟨rfl, HB7.out⟩
        · have hd0 : decide (0 ≤ k) = true := by simp; omega
          have hd1 : decide (k ≤ 65535) = false := by simp; omega
          go_wp2
          go_ret
          exact ⟨rfl, HB7.out⟩
    · have h2b : ((t.size : Int) == 2) = false := by simp; omega
      go_wp2_with fail
      refine (read_short_no t _ h2 (by omega)).mono ?_
      rintro e w' ⟨rfl, rfl⟩
      by_cases hin : 0 ≤ k ∧ k ≤ 65535
      · obtain ⟨hk0, hk1⟩ := hin
        have hd1 : decide (k ≤ 65535) = true := by simp; omega
        have hd0 : decide (0 ≤ k) = true := by simp; omega
        have hu := fun w => impl_short_in k w hk0 hk1
        have hz : (shortStr k).size = 2 := rfl
        have hnum := num_shortStr k hk0 hk1
        generalize shortStr k = u at hu hz hnum
        have HU : Hid (∀ w, _) := hu
        have HRU : Hid (∀ w, _) := fun w => read_short u w hz
        rw [hnum] at HRU
        clear hu hz hnum bdk
        have hkk : (k == k) = true := by simp
        go_wp2_with fail
        refine (HU.out _).mono ?_
        rintro e w9 ⟨rfl, hb⟩
        have HB9 : Hid (Below w.heap.size w w9) := HB5.out.trans (hb.mono HB5.out.size)
        clear hb
        go_wp2_with fail
        refine (HRU.out _).mono ?_
        rintro e w' ⟨rfl, rfl⟩
        go_wp2
        go_ret
        exact ⟨rfl, HB9.out⟩
      · have hout : k < 0 ∨ 65535 < k := by omega
        clear hin bdk
        go_wp2_with fail
        refine (impl_short_out k _ hout).mono ?_
        rintro e w' ⟨rfl, rfl⟩
        go_wp2_with fail
        refine (read_short_no ⟨#[]⟩ _ (by decide) (by decide)).mono ?_
        rintro e w' ⟨rfl, rfl⟩
        rcases hout with hout | hout
        · go_wp2
          go_ret
          exact ⟨rfl, HB5.out⟩
        · have hd0 : decide (0 ≤ k) = true := by simp; omega
          have hd1 : decide (k ≤ 65535) = false := by simp; omega
          go_wp2
          go_ret
          exact ⟨rfl, HB5.out⟩

set_option maxRecDepth 100000 in
theorem lifted (os : Os) (started : os.Started) (H : Type) (enc : TypeId × Value → H) :
    ReturnsInHanded {} Try.checked os 3 .any (Rows.fnWordsSpec.pre6 enc Try.prog Try.f3 Rows.fnWordsRow.domain false) (Rows.fnWordsSpec.post enc Try.prog Try.f3 false true false false) := by
  refine returnsInHanded_of_change (C := Try.checked) own started (by kernel_rfl) Try.func3
    (ChangeSpec.witness6 (enc := enc) (C := Try.checked) false ⟨#[], #[.slice none 0 0], []⟩ 8 (by kernel_rfl) (by kernel_rfl) (by kernel_rfl) (by kernel_rfl)) ?_
  intro W base args ds gs before hval0 hW hcnd _
  have hval : ∀ (j : Nat) t v, Try.f3.params[j]? = some t → args[j]? = some v → Value.okWide Try.prog W .any base t v := hval0
  have hW' := hW
  obtain ⟨p, q, hA0, hV, rfl, hfz, hnd⟩ := hW
  have hA : DataW.TrodAll enc Try.prog W 0 (fun _ => true) true Try.f3.params.toList args.toList ds p := hA0
  rw [Try.params3] at hA hval
  obtain ⟨v0, vs0, d0, ds0, p0, q0, hargs, rfl, rfl, h0, r0⟩ := trodAll_cons hA
  obtain ⟨rfl, rfl, rfl⟩ := trodAll_nil r0
  obtain rfl : args = #[v0] := by cases args; simp_all
  obtain ⟨rfl, rfl⟩ := trodVars_none hV
  obtain ⟨a0, len0, cap0, rfl⟩ := okWide_slice Try.underlying22 (hval 0 22 v0 rfl rfl)
  have k0 := h0
  have lt0 : ∀ x ∈ p0, x.block < W.heap.size := by obtain ⟨m, hm⟩ := k0; exact DataW.trod_lt m _ _ _ hm
  obtain ⟨z0, w0⟩ : ∃ zs, IsRow .u8 W a0 len0 cap0 zs := by
    obtain ⟨fuel, hf⟩ := h0
    rcases open_ints Try.underlying22 Try.underlying5 (by kernel_rfl) hf with ⟨hcs, _⟩ | ⟨x, l, c, zs, hcs, _, hl, hm, hz, _, hcell, hwz⟩
    · simp [Value.cells] at hcs
      obtain ⟨rfl, rfl, rfl⟩ := hcs
      exact ⟨[], .inl ⟨rfl, rfl, rfl, rfl⟩⟩
    · simp [Value.cells] at hcs
      obtain ⟨rfl, rfl, rfl⟩ := hcs
      exact ⟨zs, .inr ⟨_, rfl, hl, hm, by simpa using hz, hcell, hwz⟩⟩
  clear hA0 hval0
  refine (walk a0 len0 cap0 z0 W w0).mono fun e W' ⟨he, bel⟩ => ?_
  subst he
  exact ⟨_, rfl, _, _, _, [], _, [], hW', trodAll_mk1 (shut_bool Try.underlying4 _), (trodAll_cons_mk (Below.trod laidOut (by kernel_rfl) (of_decide_eq_true (by kernel_rfl)) k0 bel lt0) trodAll_mk0), rfl, bel.frame _, fun h => by cases h⟩

theorem over : Rows.fnWordsRow.holds Try.pinned (OpenSpec.ofChange Rows.fnWordsSpec) :=
  OpenClaim.holds_of_wide 3 Try.f3 rfl rfl rfl rfl rfl rfl rfl ⟨rfl, rfl, rfl, rfl, rfl⟩ rfl rfl rfl rfl rfl (by kernel_rfl) Try.func3 (by kernel_rfl)
    (of_decide_eq_true (by kernel_rfl)) (by unfold Func.isWrapper; first | (rw [if_pos (by decide +kernel)]; kernel_rfl) | (rw [if_neg (by decide +kernel)]; exact ⟨rfl, rfl⟩))
    (fun os started H enc _ => lifted os started H enc)

theorem proved : Rows.FnWordsSaid := over
#print axioms proved
end Go.Proofs.Yteafgnggmpjdmaa.fnWords
