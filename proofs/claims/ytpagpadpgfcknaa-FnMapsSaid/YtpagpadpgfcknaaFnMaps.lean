/-
  FnMaps: for every code the law on drawn lines and maps (lines come back from their map, and a map from its lines) returns true, and the code reads as before; no condition.
-/
import Derived.Test.YtpagpadpgfcknaaRows
import Derived.WalkKit
import Derived.Test.YtpagpadpgfcknaaMapMath
import Derived.Test.YtpagpadpgfcknaaGaps4
import Derived.ProofKit
import Derived.OpenShut
import Derived.ShutString
import Derived.ChangeOld
import Derived.Below
namespace Go.Proofs.Ytpagpadpgfcknaa.fnMaps
open Go.ChangeShapes Go.WideShapes Go.ChangeAt Go.RowKit
open Go.ChangeMaps (open_string shut_string)
set_option linter.unusedVariables false
open lb ints rd

theorem own : ownKnob Try.prog.godebug = none := by kernel_rfl
theorem laidOut : laidOutB Try.prog = true := by kernel_rfl

/-- WHAT THE WALK IS TOLD OF A SLICE OF INTEGERS THAT CAME IN: it is nil; or it leads to a row of 'cap' cells, the numbers 'zs' (the first 'len' are its elements, the rest its spare room), each fitting its kind. -/
def IsRow (k : IntKind) (w : World) (a : Option Addr) (len cap : Nat) (zs : List Int) : Prop :=
  (a = none ∧ len = 0 ∧ cap = 0 ∧ zs = []) ∨
  ∃ x, a = some x ∧ len ≤ cap ∧ cap ≤ maxLen ∧ zs.length = cap ∧ (∀ i, i < zs.length → w.cell? (x.add i) = some (.int k (zs.getD i 0))) ∧ ∀ n ∈ zs, (Lit.int k n).wf = true

theorem walk (a0 : Option Addr) (len0 cap0 : Nat) (z0 : List Int) (w : World) (w0 : IsRow .u8 w a0 len0 cap0 z0) :
    Calls Try.prog 3 #[.slice a0 len0 cap0] w fun e w' => e = .returned (.bool true) ∧ Below w.heap.size w w' := by
  have c0 := code_of w0
  clear w0
  by_cases hb0 : 1048576 < len0
  · go_enter Try.func3, Try.ntmps3
    go_wp2_with fail
    refine (big_yes _ a0 len0 cap0 hb0).mono ?_
    rintro e w' ⟨rfl, rfl⟩
    go_wp2
    go_ret
    exact ⟨rfl, Below.refl _ _⟩
  have HC : Hid (RdCode w w.heap.size a0 len0) := c0
  clear c0
  go_enter Try.func3, Try.ntmps3
  go_wp2_with fail
  refine (big_no _ a0 len0 cap0 (by omega)).mono ?_
  rintro e w' ⟨rfl, rfl⟩
  go_wp2_with fail
  refine (draw_mapOf _ a0 len0 cap0 (by omega) HC.out).mono ?_
  rintro e w1 ⟨v, rfl, xs, hxl, hown, hb⟩
  obtain ⟨ad, g, cp, rfl, _, hi1⟩ := ints_of_row hown
  have HB1 : Hid (Below w.heap.size w w1) := hb
  have HI1 : Hid (Ints w1 ad g xs) := hi1
  have HXL : Hid (xs.length ≤ 1048576) := by show xs.length ≤ 1048576; omega
  clear hb hown hi1 hxl
  have HMI : Hid (∀ (w : World) (a : Option Addr) (cap : Nat), Nums w a xs → _) := fun w a cap h => impl_map w a cap xs HXL.out h
  have HMS : Hid (∀ (w : World) (a : Option Addr) (cap : Nat), Nums w a xs → _) := fun w a cap h => spec_map w a cap xs HXL.out h
  have HLB : Hid (∀ w, Calls _ _ _ w _) := fun w => impl_lines (mapOfS xs) w
  have HOKY : Hid (okN xs xs.length = true → (mapOfS xs).size = 64 ∧ linesOf (mapOfS xs) = xs) := fun h => (mapOfS_ok xs h).2
  have HOKN : Hid (okN xs xs.length = false → mapOfS xs = ⟨#[]⟩) := mapOfS_no xs
  generalize mapOfS xs = m at HMI HMS HLB HOKY HOKN
  have hmm : (m.toList == m.toList) = true := by simp
  go_wp2_with fail
  refine (HMI.out w1 _ _ HI1.out.nums).mono ?_
  rintro e w2 ⟨rfl, hb2⟩
  have HB2 : Hid (Below w.heap.size w w2) := HB1.out.trans (hb2.mono HB1.out.size)
  have HI2 : Hid (Ints w2 ad g xs) := HI1.out.below hb2
  have HC2 : Hid (RdCode w2 w2.heap.size a0 len0) := HC.out.below HB2.out HB2.out.size
  clear hb2
  go_wp2_with fail
  refine (draw_linesOf _ a0 len0 cap0 (by omega) HC2.out).mono ?_
  rintro e w3 ⟨n, rfl, hn, hb3⟩
  have HB3 : Hid (Below w.heap.size w w3) := HB2.out.trans (hb3.mono HB2.out.size)
  have HI3 : Hid (Ints w3 ad g xs) := HI2.out.below hb3
  have HN65 : Hid (n.size ≤ 65) := hn
  clear hb3 hn
  have HLI : Hid (∀ w, Calls _ _ _ w _) := fun w => impl_lines n w
  have HLS : Hid (∀ w, Calls _ _ _ w _) := fun w => spec_lines n w
  have HFR : Hid (∀ w, Calls _ _ _ w _) := fun w => spec_free n 0 0 w
  have HKL : Hid ((linesOf n).length ≤ 1048576) := by
    show (linesOf n).length ≤ 1048576
    unfold linesOf
    split
    · have := linesL_le n.data.toList 128; omega
    · simp
  have HKM : Hid (∀ (w : World) (a : Option Addr) (cap : Nat), Nums w a (linesOf n) → _) := fun w a cap h => impl_map w a cap (linesOf n) HKL.out h
  have HBK : Hid (mapOk n = true → mapOfS (linesOf n) = n) := map_back n
  have HFF : Hid (freeOf n 0 0 = if mapOk n = true then 0 else -1) := by
    show freeOf n 0 0 = _
    have hr : rangeB 0 0 = true := by decide
    rw [freeOf, hr, Bool.and_true]
    split <;> rfl
  generalize freeOf n 0 0 = fr at HFR HFF
  generalize linesOf n = ks at HLI HLS HKL HKM HBK
  go_wp2_with fail
  refine (HLI.out _).mono ?_
  rintro e w4 ⟨v, rfl, hown, hb4⟩
  obtain ⟨ad4, g4, cp4, rfl, _, hi4⟩ := ints_of_row hown
  have HB4 : Hid (Below w.heap.size w w4) := HB3.out.trans (hb4.mono HB3.out.size)
  have HI4 : Hid (Ints w4 ad g xs) := HI3.out.below hb4
  have HK4 : Hid (Ints w4 ad4 g4 ks) := hi4
  clear hown hi4 hb4
  go_wp2_with fail
  refine (HMS.out w4 _ _ HI4.out.nums).mono ?_
  rintro e w5 ⟨rfl, hb5⟩
  have HB5 : Hid (Below w.heap.size w w5) := HB4.out.trans (hb5.mono HB4.out.size)
  have HI5 : Hid (Ints w5 ad g xs) := HI4.out.below hb5
  have HK5 : Hid (Ints w5 ad4 g4 ks) := HK4.out.below hb5
  clear hb5
  go_wp2_with fail
  refine (HLS.out _).mono ?_
  rintro e w6 ⟨v, rfl, hown, hb6⟩
  obtain ⟨ad6, g6, cp6, rfl, _, hi6⟩ := ints_of_row hown
  have HB6 : Hid (Below w.heap.size w w6) := HB5.out.trans (hb6.mono HB5.out.size)
  have HI6 : Hid (Ints w6 ad g xs) := HI5.out.below hb6
  have HK6 : Hid (Ints w6 ad4 g4 ks) := HK5.out.below hb6
  have HJ6 : Hid (Ints w6 ad6 g6 ks) := hi6
  clear hown hi6 hb6
  go_wp2_with fail
  refine (sameInts_same w6 ad4 ad6 g4 g6 cp4 cp6 ks HKL.out HK6.out HJ6.out).mono ?_
  rintro e w7 ⟨rfl, hb7⟩
  have HB7 : Hid (Below w.heap.size w w7) := HB6.out.trans (hb7.mono HB6.out.size)
  have HI7 : Hid (Ints w7 ad g xs) := HI6.out.below hb7
  have HK7 : Hid (Ints w7 ad4 g4 ks) := HK6.out.below hb7
  clear hb7
  cases hok : okN xs xs.length with
  | false =>
    have hme := HOKN.out hok
    subst hme
    clear hok HOKY HOKN
    cases hmk : mapOk n with
    | false =>
      rw [hmk] at HFF
      have hfr : fr = -1 := HFF.out
      subst hfr
      clear hmk HFF HBK
      go_wp2_with fail
      refine (HFR.out _).mono ?_
      rintro e w8 ⟨rfl, hb8⟩
      go_wp2
      go_ret
      exact ⟨rfl, HB7.out.trans (hb8.mono HB7.out.size)⟩
    | true =>
      rw [hmk] at HFF
      have hfr : fr = 0 := HFF.out
      subst hfr
      have hbk := HBK.out hmk
      rw [hbk] at HKM
      have hnn : (n.toList == n.toList) = true := by simp
      clear hmk HFF HBK hbk
      go_wp2_with fail
      refine (HFR.out _).mono ?_
      rintro e w8 ⟨rfl, hb8⟩
      have HK8 : Hid (Ints w8 ad4 g4 ks) := HK7.out.below hb8
      go_wp2_with fail
      refine (HKM.out w8 _ _ HK8.out.nums).mono ?_
      rintro e w9 ⟨rfl, hb9⟩
      have HB9 : Hid (Below w.heap.size w w9) := (HB7.out.trans (hb8.mono HB7.out.size)).trans (hb9.mono (HB7.out.trans (hb8.mono HB7.out.size)).size)
      clear hb8 hb9
      go_wp2
      go_ret
      exact ⟨rfl, HB9.out⟩
  | true =>
    obtain ⟨hm64, hlb⟩ := HOKY.out hok
    rw [hlb] at HLB
    have hme : (m.toList == ([] : List UInt8)) = false := by
      rw [ByteArray.toList_eq]
      cases h : m.data.toList with
      | nil => have : m.data.toList.length = 64 := by simpa using hm64
               rw [h] at this; simp at this
      | cons => rfl
    clear hok HOKY HOKN hlb hm64
    go_wp2_with fail
    refine (HLB.out _).mono ?_
    rintro e w8 ⟨v, rfl, hown, hb8⟩
    obtain ⟨ad8, g8, cp8, rfl, _, hi8⟩ := ints_of_row hown
    have HB8 : Hid (Below w.heap.size w w8) := HB7.out.trans (hb8.mono HB7.out.size)
    have HI8 : Hid (Ints w8 ad g xs) := HI7.out.below hb8
    have HK8 : Hid (Ints w8 ad4 g4 ks) := HK7.out.below hb8
    have HJ8 : Hid (Ints w8 ad8 g8 xs) := hi8
    clear hown hi8 hb8
    go_wp2_with fail
    refine (sameInts_same w8 ad8 ad g8 g cp8 cp xs HXL.out HJ8.out HI8.out).mono ?_
    rintro e w9 ⟨rfl, hb9⟩
    have HB9 : Hid (Below w.heap.size w w9) := HB8.out.trans (hb9.mono HB8.out.size)
    have HK9 : Hid (Ints w9 ad4 g4 ks) := HK8.out.below hb9
    clear hb9
    cases hmk : mapOk n with
    | false =>
      rw [hmk] at HFF
      have hfr : fr = -1 := HFF.out
      subst hfr
      clear hmk HFF HBK
      go_wp2_with fail
      refine (HFR.out _).mono ?_
      rintro e w10 ⟨rfl, hb10⟩
      go_wp2
      go_ret
      exact ⟨rfl, HB9.out.trans (hb10.mono HB9.out.size)⟩
    | true =>
      rw [hmk] at HFF
      have hfr : fr = 0 := HFF.out
      subst hfr
      have hbk := HBK.out hmk
      rw [hbk] at HKM
      have hnn : (n.toList == n.toList) = true := by simp
      clear hmk HFF HBK hbk
      go_wp2_with fail
      refine (HFR.out _).mono ?_
      rintro e w10 ⟨rfl, hb10⟩
      have HK10 : Hid (Ints w10 ad4 g4 ks) := HK9.out.below hb10
      go_wp2_with fail
      refine (HKM.out w10 _ _ HK10.out.nums).mono ?_
      rintro e w11 ⟨rfl, hb11⟩
      have HB11 : Hid (Below w.heap.size w w11) := (HB9.out.trans (hb10.mono HB9.out.size)).trans (hb11.mono (HB9.out.trans (hb10.mono HB9.out.size)).size)
      clear hb10 hb11
      go_wp2
      go_ret
      exact ⟨rfl, HB11.out⟩

set_option maxRecDepth 100000 in
theorem lifted (os : Os) (started : os.Started) (H : Type) (enc : TypeId × Value → H) :
    ReturnsInHanded {} Try.checked os 3 .any (Rows.fnMapsSpec.pre6 enc Try.prog Try.f3 Rows.fnMapsRow.domain false) (Rows.fnMapsSpec.post enc Try.prog Try.f3 false true false false) := by
  refine returnsInHanded_of_change (C := Try.checked) own started (by kernel_rfl) Try.func3
    (ChangeSpec.witness6 (enc := enc) (C := Try.checked) false ⟨#[], #[.slice none 0 0], []⟩ 8 (by kernel_rfl) (by kernel_rfl) (by kernel_rfl) (by kernel_rfl)) ?_
  intro W base args ds gs before hval0 hW hcnd _
  have hval : ∀ (j : Nat) t v, Try.f3.params[j]? = some t → args[j]? = some v → Value.okWide Try.prog W .any base t v := hval0
  have hW' := hW
  obtain ⟨p, q, hA0, hV, rfl, hfz, hnd⟩ := hW
  have hA : DataW.TrodAll enc Try.prog W 0 (fun _ => true) true Try.f3.params.toList args.toList ds p := hA0
  rw [Try.params3] at hA hval
  obtain ⟨v0, vs0, d0, ds0, p0, q0, hargs, rfl, rfl, h0, r0⟩ := trodAll_cons hA
  obtain ⟨rfl, rfl, rfl⟩ := trodAll_nil r0
  obtain rfl : args = #[v0] := by cases args; simp_all
  obtain ⟨rfl, rfl⟩ := trodVars_none hV
  obtain ⟨a0, len0, cap0, rfl⟩ := okWide_slice Try.underlying22 (hval 0 22 v0 rfl rfl)
  have k0 := h0
  have lt0 : ∀ x ∈ p0, x.block < W.heap.size := by obtain ⟨m, hm⟩ := k0; exact DataW.trod_lt m _ _ _ hm
  obtain ⟨z0, w0⟩ : ∃ zs, IsRow .u8 W a0 len0 cap0 zs := by
    obtain ⟨fuel, hf⟩ := h0
    rcases open_ints Try.underlying22 Try.underlying5 (by kernel_rfl) hf with ⟨hcs, _⟩ | ⟨x, l, c, zs, hcs, _, hl, hm, hz, _, hcell, hwz⟩
    · simp [Value.cells] at hcs
      obtain ⟨rfl, rfl, rfl⟩ := hcs
      exact ⟨[], .inl ⟨rfl, rfl, rfl, rfl⟩⟩
    · simp [Value.cells] at hcs
      obtain ⟨rfl, rfl, rfl⟩ := hcs
      exact ⟨zs, .inr ⟨_, rfl, hl, hm, by simpa using hz, hcell, hwz⟩⟩
  clear hA0 hval0
  refine (walk a0 len0 cap0 z0 W w0).mono fun e W' ⟨he, bel⟩ => ?_
  subst he
  exact ⟨_, rfl, _, _, _, [], _, [], hW', trodAll_mk1 (shut_bool Try.underlying4 _), (trodAll_cons_mk (Below.trod laidOut (by kernel_rfl) (of_decide_eq_true (by kernel_rfl)) k0 bel lt0) trodAll_mk0), rfl, bel.frame _, fun h => by cases h⟩

theorem over : Rows.fnMapsRow.holds Try.pinned (OpenSpec.ofChange Rows.fnMapsSpec) :=
  OpenClaim.holds_of_wide 3 Try.f3 rfl rfl rfl rfl rfl rfl rfl ⟨rfl, rfl, rfl, rfl, rfl⟩ rfl rfl rfl rfl rfl (by kernel_rfl) Try.func3 (by kernel_rfl)
    (of_decide_eq_true (by kernel_rfl)) (by unfold Func.isWrapper; first | (rw [if_pos (by decide +kernel)]; kernel_rfl) | (rw [if_neg (by decide +kernel)]; exact ⟨rfl, rfl⟩))
    (fun os started H enc _ => lifted os started H enc)

theorem proved : Rows.FnMapsSaid := over
#print axioms proved
end Go.Proofs.Ytpagpadpgfcknaa.fnMaps
