/-
  FnDenies: for every code the law on drawn answers (just the codes of full heaps, lines and logs are told) returns true, and the code reads as before; no condition.
-/
import Derived.Test.YtffejdggpoaniaaRows
import Derived.WalkKit
import Derived.Test.YtffejdggpoaniaaDeny
import Derived.Test.YtffejdggpoaniaaDrawA
import Derived.ProofKit
import Derived.OpenShut
import Derived.ShutString
import Derived.ChangeOld
import Derived.Below
namespace Go.Proofs.Ytffejdggpoaniaa.fnDenies
open Go.ChangeShapes Go.WideShapes Go.ChangeAt Go.RowKit
open Go.ChangeMaps (open_string shut_string)
set_option linter.unusedVariables false
open ints inr rd ans

theorem own : ownKnob Try.prog.godebug = none := by kernel_rfl
theorem laidOut : laidOutB Try.prog = true := by kernel_rfl

/-- WHAT THE WALK IS TOLD OF A SLICE OF INTEGERS THAT CAME IN: it is nil; or it leads to a row of 'cap' cells, the numbers 'zs' (the first 'len' are its elements, the rest its spare room), each fitting its kind. -/
def IsRow (k : IntKind) (w : World) (a : Option Addr) (len cap : Nat) (zs : List Int) : Prop :=
  (a = none ∧ len = 0 ∧ cap = 0 ∧ zs = []) ∨
  ∃ x, a = some x ∧ len ≤ cap ∧ cap ≤ maxLen ∧ zs.length = cap ∧ (∀ i, i < zs.length → w.cell? (x.add i) = some (.int k (zs.getD i 0))) ∧ ∀ n ∈ zs, (Lit.int k n).wf = true

theorem walk (a0 : Option Addr) (len0 cap0 : Nat) (z0 : List Int) (w : World) (w0 : IsRow .u8 w a0 len0 cap0 z0) :
    Calls Try.prog 4 #[.slice a0 len0 cap0] w fun e w' => e = .returned (.bool true) ∧ Below w.heap.size w w' := by
  have c0 := code_of w0
  clear w0
  by_cases hb0 : 1048576 < len0
  · go_enter Try.func4, Try.ntmps4
    go_wp2_with fail
    refine (big_yes _ a0 len0 cap0 hb0).mono ?_
    rintro e w' ⟨rfl, rfl⟩
    go_wp2
    go_ret
    exact ⟨rfl, Below.refl _ _⟩
  have HC : Hid (RdCode w w.heap.size a0 len0) := c0
  clear c0
  go_enter Try.func4, Try.ntmps4
  go_wp2_with fail
  refine (big_no _ a0 len0 cap0 (by omega)).mono ?_
  rintro e w' ⟨rfl, rfl⟩
  go_wp2_with fail
  refine (draw_deny _ a0 len0 cap0 (by omega) HC.out).mono ?_
  rintro e w1 ⟨ad, cp, n, rfl, hn61, xs, hx, hnu, hb⟩
  have HB1 : Hid (Below w.heap.size w w1) := hb
  have HN1 : Hid (Nums w1 ad xs) := hnu
  have HXL : Hid (xs.length = n * 2) := hx
  have HV : Hid (denyV xs n = if n ≤ 60 then denyK xs n else []) := rfl
  have HKA : Hid (∀ i, i < n → (denyK xs n).getD i 0 = denyOne (xs.getD (i * 2) 0)) := fun i h => denyK_at xs n i h
  have HKL : Hid ((denyK xs n).length = n) := denyK_len xs n
  clear hb hnu
  go_wp2_with fail
  refine (impl_deny w1 ad cp n xs hx HN1.out (by omega)).mono ?_
  rintro e w2 ⟨v, rfl, hown, hb2⟩
  obtain ⟨aV, gV, cV, rfl, _, hi2⟩ := ints_of_row hown
  have HB2 : Hid (Below w.heap.size w w2) := HB1.out.trans (hb2.mono HB1.out.size)
  have HN2 : Hid (Nums w2 ad xs) := HN1.out.below hb2
  have HI2 : Hid (Ints w2 aV gV (denyV xs n)) := hi2
  clear hown hi2 hb2 hx
  by_cases hbig : (60 : Int) < (n : Int)
  · have hv0 : denyV xs n = [] := by rw [HV.out]; exact if_neg (by omega)
    rw [hv0]
    clear HV HKA HKL HI2 hv0
    go_wp2
    go_ret
    exact ⟨rfl, HB2.out⟩
  · have hv0 : denyV xs n = denyK xs n := by rw [HV.out]; exact if_pos (by omega)
    rw [hv0] at HI2 ⊢
    rw [HKL.out]
    generalize denyK xs n = ds at HI2 HKA HKL
    clear HV hv0
    have hnn : ((n : Int) == (n : Int)) = true := by simp
    go_wp2
    go_loop [5] (fun i => ∃ k : Nat, k ≤ n ∧ i = .int .i64 (k : Int)) (fun i => n - (intOf i).toNat)
    case atStart => exact ⟨0, Nat.zero_le _, rfl⟩
    case round =>
      obtain ⟨k, hk, rfl⟩ := hrel
      by_cases hlt : k < n
      · have hlti : (k : Int) < (n : Int) := by omega
        have hi : k * 2 < xs.length := by have := HXL.out; omega
        have hj : k < ds.length := by rw [HKL.out]; exact hlt
        obtain ⟨b, off, rfl, c0⟩ := HN2.out (k * 2) hi
        obtain ⟨rfl, d0, _⟩ := HI2.out k hj
        have hy : ds[k] = denyOne xs[k * 2] := by
          have h1 := HKA.out k hlt
          rw [List.getD_eq_getElem?_getD, List.getElem?_eq_getElem hj, List.getD_eq_getElem?_getD, List.getElem?_eq_getElem hi] at h1
          exact h1
        rw [hy] at d0
        generalize xs[k * 2] = x at c0 d0
        clear hy
        by_cases h10 : x = 10
        · subst h10
          rw [show denyOne 10 = 10 from rfl] at d0
          go_wp2
          refine ⟨⟨k + 1, by omega, by go_num⟩, by simp [intOf]; omega⟩
        · by_cases h11 : x = 11
          · subst h11
            rw [show denyOne 11 = 11 from rfl] at d0
            go_wp2
            refine ⟨⟨k + 1, by omega, by go_num⟩, by simp [intOf]; omega⟩
          · by_cases h12 : x = 12
            · subst h12
              rw [show denyOne 12 = 12 from rfl] at d0
              go_wp2
              refine ⟨⟨k + 1, by omega, by go_num⟩, by simp [intOf]; omega⟩
            · have hz : denyOne x = 0 := by
                unfold denyOne
                exact if_neg (by unfold denyB; simp; omega)
              rw [hz] at d0
              have f10 : (x == 10) = false := by simp; exact h10
              have f11 : (x == 11) = false := by simp; exact h11
              have f12 : (x == 12) = false := by simp; exact h12
              clear h10 h11 h12 hz
              go_wp2
              refine ⟨⟨k + 1, by omega, by go_num⟩, by simp [intOf]; omega⟩
      · obtain rfl : k = n := by omega
        have hlti : ¬ (k : Int) < (k : Int) := by omega
        go_wp2
        go_ret
        exact ⟨rfl, HB2.out⟩

set_option maxRecDepth 100000 in
theorem lifted (os : Os) (started : os.Started) (H : Type) (enc : TypeId × Value → H) :
    ReturnsInHanded {} Try.checked os 4 .any (Rows.fnDeniesSpec.pre6 enc Try.prog Try.f4 Rows.fnDeniesRow.domain false) (Rows.fnDeniesSpec.post enc Try.prog Try.f4 false true false false) := by
  refine returnsInHanded_of_change (C := Try.checked) own started (by kernel_rfl) Try.func4
    (ChangeSpec.witness6 (enc := enc) (C := Try.checked) false ⟨#[], #[.slice none 0 0], []⟩ 8 (by kernel_rfl) (by kernel_rfl) (by kernel_rfl) (by kernel_rfl)) ?_
  intro W base args ds gs before hval0 hW hcnd _
  have hval : ∀ (j : Nat) t v, Try.f4.params[j]? = some t → args[j]? = some v → Value.okWide Try.prog W .any base t v := hval0
  have hW' := hW
  obtain ⟨p, q, hA0, hV, rfl, hfz, hnd⟩ := hW
  have hA : DataW.TrodAll enc Try.prog W 0 (fun _ => true) true Try.f4.params.toList args.toList ds p := hA0
  rw [Try.params4] at hA hval
  obtain ⟨v0, vs0, d0, ds0, p0, q0, hargs, rfl, rfl, h0, r0⟩ := trodAll_cons hA
  obtain ⟨rfl, rfl, rfl⟩ := trodAll_nil r0
  obtain rfl : args = #[v0] := by cases args; simp_all
  obtain ⟨rfl, rfl⟩ := trodVars_none hV
  obtain ⟨a0, len0, cap0, rfl⟩ := okWide_slice Try.underlying33 (hval 0 33 v0 rfl rfl)
  have k0 := h0
  have lt0 : ∀ x ∈ p0, x.block < W.heap.size := by obtain ⟨m, hm⟩ := k0; exact DataW.trod_lt m _ _ _ hm
  obtain ⟨z0, w0⟩ : ∃ zs, IsRow .u8 W a0 len0 cap0 zs := by
    obtain ⟨fuel, hf⟩ := h0
    rcases open_ints Try.underlying33 Try.underlying5 (by kernel_rfl) hf with ⟨hcs, _⟩ | ⟨x, l, c, zs, hcs, _, hl, hm, hz, _, hcell, hwz⟩
    · simp [Value.cells] at hcs
      obtain ⟨rfl, rfl, rfl⟩ := hcs
      exact ⟨[], .inl ⟨rfl, rfl, rfl, rfl⟩⟩
    · simp [Value.cells] at hcs
      obtain ⟨rfl, rfl, rfl⟩ := hcs
      exact ⟨zs, .inr ⟨_, rfl, hl, hm, by simpa using hz, hcell, hwz⟩⟩
  clear hA0 hval0
  refine (walk a0 len0 cap0 z0 W w0).mono fun e W' ⟨he, bel⟩ => ?_
  subst he
  exact ⟨_, rfl, _, _, _, [], _, [], hW', trodAll_mk1 (shut_bool Try.underlying4 _), (trodAll_cons_mk (Below.trod laidOut (by kernel_rfl) (of_decide_eq_true (by kernel_rfl)) k0 bel lt0) trodAll_mk0), rfl, bel.frame _, fun h => by cases h⟩

theorem over : Rows.fnDeniesRow.holds Try.pinned (OpenSpec.ofChange Rows.fnDeniesSpec) :=
  OpenClaim.holds_of_wide 4 Try.f4 rfl rfl rfl rfl rfl rfl rfl ⟨rfl, rfl, rfl, rfl, rfl⟩ rfl rfl rfl rfl rfl (by kernel_rfl) Try.func4 (by kernel_rfl)
    (of_decide_eq_true (by kernel_rfl)) (by unfold Func.isWrapper; first | (rw [if_pos (by decide +kernel)]; kernel_rfl) | (rw [if_neg (by decide +kernel)]; exact ⟨rfl, rfl⟩))
    (fun os started H enc _ => lifted os started H enc)

theorem proved : Rows.FnDeniesSaid := over
#print axioms proved
end Go.Proofs.Ytffejdggpoaniaa.fnDenies
