/-
  FnRefs: at every code the law that old and young references are told apart, and tell their places, returns true for what is drawn of it, and the code reads as before; no condition.
-/
import Derived.Test.YtnghhfdbibbpcacRows
import Derived.WalkKit
import Derived.WalkSpells
import Derived.Handy
import Derived.Test.YtnghhfdbibbpcacDrawR
import Derived.Test.YtnghhfdbibbpcacRef3
import Derived.ProofKit
import Derived.OpenShut
import Derived.ShutString
import Derived.ChangeOld
import Derived.Below
namespace Go.Proofs.Ytnghhfdbibbpcac.fnRefs
open Go.ChangeShapes Go.WideShapes Go.ChangeAt Go.RowKit
open Go.ChangeMaps (open_string shut_string)
set_option linter.unusedVariables false
open wmath rd ref

theorem own : ownKnob Try.prog.godebug = none := by kernel_rfl
theorem laidOut : laidOutB Try.prog = true := by kernel_rfl

/-- WHAT THE WALK IS TOLD OF A SLICE OF INTEGERS THAT CAME IN: it is nil; or it leads to a row of 'cap' cells, the numbers 'zs' (the first 'len' are its elements, the rest its spare room), each fitting its kind. -/
def IsRow (k : IntKind) (w : World) (a : Option Addr) (len cap : Nat) (zs : List Int) : Prop :=
  (a = none ∧ len = 0 ∧ cap = 0 ∧ zs = []) ∨
  ∃ x, a = some x ∧ len ≤ cap ∧ cap ≤ maxLen ∧ zs.length = cap ∧ (∀ i, i < zs.length → w.cell? (x.add i) = some (.int k (zs.getD i 0))) ∧ ∀ n ∈ zs, (Lit.int k n).wf = true

theorem old_back (n : Int) (h : ¬ oldRef n = 0) : refKind (oldRef n) = 1 ∧ placeOf (oldRef n) = n ∧ oldRef n < 9223372036854775808 := by
  unfold oldRef at h ⊢
  split at h
  · rename_i q
    rw [if_pos q]
    have e : refKind (2 * n) = 1 := by unfold refKind; rw [if_neg (by omega), if_pos (by omega)]
    refine ⟨e, ?_, by omega⟩
    unfold placeOf
    rw [e, if_neg (by decide)]
    omega
  · exact absurd rfl h
theorem young_back (n : Int) (h : ¬ youngRef n = 0) : refKind (youngRef n) = 2 ∧ placeOf (youngRef n) = n ∧ youngRef n < 9223372036854775808 := by
  unfold youngRef at h ⊢
  split at h
  · rename_i q
    rw [if_pos q]
    have e : refKind (2 * n + 1) = 2 := by unfold refKind; rw [if_neg (by omega), if_neg (by omega), if_pos (by omega)]
    refine ⟨e, ?_, by omega⟩
    unfold placeOf
    rw [e, if_neg (by decide)]
    omega
  · exact absurd rfl h
theorem walk (a0 : Option Addr) (len0 cap0 : Nat) (z0 : List Int) (w : World) (w0 : IsRow .u8 w a0 len0 cap0 z0) :
    Calls Try.prog 4 #[.slice a0 len0 cap0] w fun e w' => e = .returned (.bool true) ∧ Below w.heap.size w w' := by
  have c0 := code_of w0
  clear w0
  by_cases hb0 : 1048576 < len0
  · go_enter Try.func4, Try.ntmps4
    go_wp2_with fail
    refine (big_yes _ a0 len0 cap0 hb0).mono ?_
    rintro e w' ⟨rfl, rfl⟩
    go_wp2
    go_ret
    exact ⟨rfl, Below.refl _ _⟩
  have HC : Hid (RdCode w w.heap.size a0 len0) := c0
  clear c0
  go_enter Try.func4, Try.ntmps4
  go_wp2_with fail
  refine (big_no _ a0 len0 cap0 (by omega)).mono ?_
  rintro e w' ⟨rfl, rfl⟩
  go_wp2_with fail
  refine (draw_old _ a0 len0 cap0 (by omega) HC.out).mono ?_
  rintro e w1 ⟨n1, rfl, hn1, hb⟩
  have HB : Hid (Below w.heap.size w w1) := hb
  clear hb hn1
  go_wp2_with fail
  refine (draw_young _ a0 len0 cap0 (by omega) (HC.out.below HB.out HB.out.size)).mono ?_
  rintro e w2 ⟨n2, rfl, hn2, hb⟩
  replace HB : Hid (Below w.heap.size w w2) := HB.out.trans (hb.mono HB.out.size)
  clear hb hn2
  go_wp2_with fail
  refine (implOldRef n1 w2).mono ?_
  rintro e w3 ⟨rfl, hb⟩
  replace HB : Hid (Below w.heap.size w w3) := HB.out.trans (hb.mono HB.out.size)
  clear hb
  go_wp2_with fail
  refine (implYoungRef n2 w3).mono ?_
  rintro e w4 ⟨rfl, hb⟩
  replace HB : Hid (Below w.heap.size w w4) := HB.out.trans (hb.mono HB.out.size)
  clear hb
  go_wp2_with fail
  refine (draw_ref _ a0 len0 cap0 (by omega) (HC.out.below HB.out HB.out.size)).mono ?_
  rintro e w5 ⟨x, rfl, hx, hb⟩
  replace HB : Hid (Below w.heap.size w w5) := HB.out.trans (hb.mono HB.out.size)
  clear hb
  have HKX : Hid (∀ w, Calls _ _ _ w _) := fun w => implRefKind x w (i64_top hx)
  have HKS : Hid (∀ w, Calls _ _ _ w _) := fun w => specRefKind x w
  have HPX : Hid (∀ w, Calls _ _ _ w _) := fun w => implPlaceOf x w (i64_top hx)
  have HPS : Hid (∀ w, Calls _ _ _ w _) := fun w => specPlaceOf x w
  have HSO : Hid (∀ w, Calls _ _ _ w _) := fun w => specOldRef n1 w
  have HSY : Hid (∀ w, Calls _ _ _ w _) := fun w => specYoungRef n2 w
  have HKZ : Hid (∀ w, Calls _ _ _ w _) := fun w => implRefKind 0 w (by omega)
  rw [show refKind 0 = 0 from rfl] at HKZ
  have hxp : x = 0 → placeOf x = -1 := fun h => by subst h; rfl
  have hA := old_back n1
  have hB := young_back n2
  clear hx
  generalize hk : refKind x = kx at HKX HKS
  generalize placeOf x = px at HPX HPS hxp
  generalize oldRef n1 = A at HSO hA ⊢
  generalize youngRef n2 = B at HSY hB ⊢
  clear hk
  have s1 : (A != A) = false := by simp
  have s2 : (B != B) = false := by simp
  have s3 : (kx != kx) = false := by simp
  have s4 : (px != px) = false := by simp
  have s5 : (n1 == n1) = true := by simp
  have s6 : (n2 == n2) = true := by simp
  go_wp2_with fail
  refine (HSO.out _).mono ?_
  rintro e w' ⟨rfl, rfl⟩
  go_wp2_with fail
  refine (HSY.out _).mono ?_
  rintro e w' ⟨rfl, rfl⟩
  go_wp2_with fail
  refine (HKX.out _).mono ?_
  rintro e w6 ⟨rfl, hb⟩
  replace HB : Hid (Below w.heap.size w w6) := HB.out.trans (hb.mono HB.out.size)
  clear hb
  go_wp2_with fail
  refine (HKS.out _).mono ?_
  rintro e w' ⟨rfl, rfl⟩
  go_wp2_with fail
  refine (HPX.out _).mono ?_
  rintro e w7 ⟨rfl, hb⟩
  replace HB : Hid (Below w.heap.size w w7) := HB.out.trans (hb.mono HB.out.size)
  clear hb
  go_wp2_with fail
  refine (HPS.out _).mono ?_
  rintro e w' ⟨rfl, rfl⟩
  obtain ⟨eX, hex⟩ : ∃ b, (x != 0) = b ∧ (b = false → px = -1) := ⟨(x != 0), rfl, fun h => hxp (by simpa using h)⟩
  obtain ⟨hex, hpx⟩ := hex
  have HPP : Hid (eX = false → px = -1) := hpx
  clear hxp hpx
  by_cases qA : A = 0
  · have eA : (A == 0) = true := by simpa using qA
    clear hA
    by_cases qB : B = 0
    · have eB : (B == 0) = true := by simpa using qB
      clear hB qA qB
      go_wp2_with fail
      refine (HKZ.out _).mono ?_
      rintro e w8 ⟨rfl, hb⟩
      replace HB : Hid (Below w.heap.size w w8) := HB.out.trans (hb.mono HB.out.size)
      clear hb
      cases eX with
      | true =>
        go_wp2
        go_ret
        exact ⟨rfl, HB.out⟩
      | false =>
        have hp1 := HPP.out rfl
        subst hp1
        go_wp2_with fail
        refine (HPX.out _).mono ?_
        rintro e w20 ⟨rfl, hb⟩
        replace HB : Hid (Below w.heap.size w w20) := HB.out.trans (hb.mono HB.out.size)
        clear hb
        go_wp2
        go_ret
        exact ⟨rfl, HB.out⟩
    · have eB : (B == 0) = false := by simpa using qB
      obtain ⟨k2, p2, l2⟩ := hB qB
      have HKB : Hid (∀ w, Calls _ _ _ w _) := fun w => implRefKind B w l2
      have HPB : Hid (∀ w, Calls _ _ _ w _) := fun w => implPlaceOf B w l2
      rw [k2] at HKB
      rw [p2] at HPB
      clear k2 p2 l2 qA qB
      go_wp2_with fail
      refine (HKB.out _).mono ?_
      rintro e w8 ⟨rfl, hb⟩
      replace HB : Hid (Below w.heap.size w w8) := HB.out.trans (hb.mono HB.out.size)
      clear hb
      go_wp2_with fail
      refine (HPB.out _).mono ?_
      rintro e w9 ⟨rfl, hb⟩
      replace HB : Hid (Below w.heap.size w w9) := HB.out.trans (hb.mono HB.out.size)
      clear hb
      go_wp2_with fail
      refine (HKZ.out _).mono ?_
      rintro e w10 ⟨rfl, hb⟩
      replace HB : Hid (Below w.heap.size w w10) := HB.out.trans (hb.mono HB.out.size)
      clear hb
      cases eX with
      | true =>
        go_wp2
        go_ret
        exact ⟨rfl, HB.out⟩
      | false =>
        have hp1 := HPP.out rfl
        subst hp1
        go_wp2_with fail
        refine (HPX.out _).mono ?_
        rintro e w20 ⟨rfl, hb⟩
        replace HB : Hid (Below w.heap.size w w20) := HB.out.trans (hb.mono HB.out.size)
        clear hb
        go_wp2
        go_ret
        exact ⟨rfl, HB.out⟩
  · have eA : (A == 0) = false := by simpa using qA
    obtain ⟨k1, p1, l1⟩ := hA qA
    have HKA : Hid (∀ w, Calls _ _ _ w _) := fun w => implRefKind A w l1
    have HPA : Hid (∀ w, Calls _ _ _ w _) := fun w => implPlaceOf A w l1
    rw [k1] at HKA
    rw [p1] at HPA
    clear k1 p1 l1 qA
    go_wp2_with fail
    refine (HKA.out _).mono ?_
    rintro e w8 ⟨rfl, hb⟩
    replace HB : Hid (Below w.heap.size w w8) := HB.out.trans (hb.mono HB.out.size)
    clear hb
    by_cases qB : B = 0
    · have eB : (B == 0) = true := by simpa using qB
      clear hB qB
      go_wp2_with fail
      refine (HPA.out _).mono ?_
      rintro e w9 ⟨rfl, hb⟩
      replace HB : Hid (Below w.heap.size w w9) := HB.out.trans (hb.mono HB.out.size)
      clear hb
      go_wp2_with fail
      refine (HKZ.out _).mono ?_
      rintro e w10 ⟨rfl, hb⟩
      replace HB : Hid (Below w.heap.size w w10) := HB.out.trans (hb.mono HB.out.size)
      clear hb
      cases eX with
      | true =>
        go_wp2
        go_ret
        exact ⟨rfl, HB.out⟩
      | false =>
        have hp1 := HPP.out rfl
        subst hp1
        go_wp2_with fail
        refine (HPX.out _).mono ?_
        rintro e w20 ⟨rfl, hb⟩
        replace HB : Hid (Below w.heap.size w w20) := HB.out.trans (hb.mono HB.out.size)
        clear hb
        go_wp2
        go_ret
        exact ⟨rfl, HB.out⟩
    · have eB : (B == 0) = false := by simpa using qB
      obtain ⟨k2, p2, l2⟩ := hB qB
      have HKB : Hid (∀ w, Calls _ _ _ w _) := fun w => implRefKind B w l2
      have HPB : Hid (∀ w, Calls _ _ _ w _) := fun w => implPlaceOf B w l2
      rw [k2] at HKB
      rw [p2] at HPB
      clear k2 p2 l2 qB
      go_wp2_with fail
      refine (HPA.out _).mono ?_
      rintro e w9 ⟨rfl, hb⟩
      replace HB : Hid (Below w.heap.size w w9) := HB.out.trans (hb.mono HB.out.size)
      clear hb
      go_wp2_with fail
      refine (HKB.out _).mono ?_
      rintro e w10 ⟨rfl, hb⟩
      replace HB : Hid (Below w.heap.size w w10) := HB.out.trans (hb.mono HB.out.size)
      clear hb
      go_wp2_with fail
      refine (HPB.out _).mono ?_
      rintro e w11 ⟨rfl, hb⟩
      replace HB : Hid (Below w.heap.size w w11) := HB.out.trans (hb.mono HB.out.size)
      clear hb
      go_wp2_with fail
      refine (HKZ.out _).mono ?_
      rintro e w12 ⟨rfl, hb⟩
      replace HB : Hid (Below w.heap.size w w12) := HB.out.trans (hb.mono HB.out.size)
      clear hb
      cases eX with
      | true =>
        go_wp2
        go_ret
        exact ⟨rfl, HB.out⟩
      | false =>
        have hp1 := HPP.out rfl
        subst hp1
        go_wp2_with fail
        refine (HPX.out _).mono ?_
        rintro e w20 ⟨rfl, hb⟩
        replace HB : Hid (Below w.heap.size w w20) := HB.out.trans (hb.mono HB.out.size)
        clear hb
        go_wp2
        go_ret
        exact ⟨rfl, HB.out⟩

set_option maxRecDepth 100000 in
theorem lifted (os : Os) (started : os.Started) (H : Type) (enc : TypeId × Value → H) :
    ReturnsInHanded {} Try.checked os 4 .any (Rows.fnRefsSpec.pre6 enc Try.prog Try.f4 Rows.fnRefsRow.domain false) (Rows.fnRefsSpec.post enc Try.prog Try.f4 false true false false) := by
  refine returnsInHanded_of_change (C := Try.checked) own started (by kernel_rfl) Try.func4
    (ChangeSpec.witness6 (enc := enc) (C := Try.checked) false ⟨#[], #[.slice none 0 0], []⟩ 8 (by kernel_rfl) (by kernel_rfl) (by kernel_rfl) (by kernel_rfl)) ?_
  intro W base args ds gs before hval0 hW hcnd _
  have hval : ∀ (j : Nat) t v, Try.f4.params[j]? = some t → args[j]? = some v → Value.okWide Try.prog W .any base t v := hval0
  have hW' := hW
  obtain ⟨p, q, hA0, hV, rfl, hfz, hnd⟩ := hW
  have hA : DataW.TrodAll enc Try.prog W 0 (fun _ => true) true Try.f4.params.toList args.toList ds p := hA0
  rw [Try.params4] at hA hval
  obtain ⟨v0, vs0, d0, ds0, p0, q0, hargs, rfl, rfl, h0, r0⟩ := trodAll_cons hA
  obtain ⟨rfl, rfl, rfl⟩ := trodAll_nil r0
  obtain rfl : args = #[v0] := by cases args; simp_all
  obtain ⟨rfl, rfl⟩ := trodVars_none hV
  obtain ⟨a0, len0, cap0, rfl⟩ := okWide_slice Try.underlying22 (hval 0 22 v0 rfl rfl)
  have k0 := h0
  have lt0 : ∀ x ∈ p0, x.block < W.heap.size := by obtain ⟨m, hm⟩ := k0; exact DataW.trod_lt m _ _ _ hm
  obtain ⟨z0, w0⟩ : ∃ zs, IsRow .u8 W a0 len0 cap0 zs := by
    obtain ⟨fuel, hf⟩ := h0
    rcases open_ints Try.underlying22 Try.underlying5 (by kernel_rfl) hf with ⟨hcs, _⟩ | ⟨x, l, c, zs, hcs, _, hl, hm, hz, _, hcell, hwz⟩
    · simp [Value.cells] at hcs
      obtain ⟨rfl, rfl, rfl⟩ := hcs
      exact ⟨[], .inl ⟨rfl, rfl, rfl, rfl⟩⟩
    · simp [Value.cells] at hcs
      obtain ⟨rfl, rfl, rfl⟩ := hcs
      exact ⟨zs, .inr ⟨_, rfl, hl, hm, by simpa using hz, hcell, hwz⟩⟩
  clear hA0 hval0
  refine (walk a0 len0 cap0 z0 W w0).mono fun e W' ⟨he, bel⟩ => ?_
  subst he
  exact ⟨_, rfl, _, _, _, [], _, [], hW', trodAll_mk1 (shut_bool Try.underlying4 _), (trodAll_cons_mk (Below.trod laidOut (by kernel_rfl) (of_decide_eq_true (by kernel_rfl)) k0 bel lt0) trodAll_mk0), rfl, bel.frame _, fun h => by cases h⟩

theorem over : Rows.fnRefsRow.holds Try.pinned (OpenSpec.ofChange Rows.fnRefsSpec) :=
  OpenClaim.holds_of_wide 4 Try.f4 rfl rfl rfl rfl rfl rfl rfl ⟨rfl, rfl, rfl, rfl, rfl⟩ rfl rfl rfl rfl rfl (by kernel_rfl) Try.func4 (by kernel_rfl)
    (of_decide_eq_true (by kernel_rfl)) (by unfold Func.isWrapper; first | (rw [if_pos (by decide +kernel)]; kernel_rfl) | (rw [if_neg (by decide +kernel)]; exact ⟨rfl, rfl⟩))
    (fun os started H enc _ => lifted os started H enc)

theorem proved : Rows.FnRefsSaid := over
#print axioms proved
end Go.Proofs.Ytnghhfdbibbpcac.fnRefs
