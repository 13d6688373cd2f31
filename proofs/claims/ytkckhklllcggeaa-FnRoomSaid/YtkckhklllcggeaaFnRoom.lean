/-
  FnRoom: for every code the law on drawn maps (a run is found just when a gap is as long; where more lines are free than one less than it times the gaps, one is) returns true, and the code reads as before; no condition.
-/
import Derived.Test.YtkckhklllcggeaaRows
import Derived.WalkKit
import Derived.Test.YtkckhklllcggeaaFoundMath
import Derived.ProofKit
import Derived.OpenShut
import Derived.ShutString
import Derived.ChangeOld
import Derived.Below
namespace Go.Proofs.Ytkckhklllcggeaa.fnRoom
open Go.ChangeShapes Go.WideShapes Go.ChangeAt Go.RowKit
open Go.ChangeMaps (open_string shut_string)
set_option linter.unusedVariables false
open lb ints rd

theorem own : ownKnob Try.prog.godebug = none := by kernel_rfl
theorem laidOut : laidOutB Try.prog = true := by kernel_rfl

/-- WHAT THE WALK IS TOLD OF A SLICE OF INTEGERS THAT CAME IN: it is nil; or it leads to a row of 'cap' cells, the numbers 'zs' (the first 'len' are its elements, the rest its spare room), each fitting its kind. -/
def IsRow (k : IntKind) (w : World) (a : Option Addr) (len cap : Nat) (zs : List Int) : Prop :=
  (a = none ∧ len = 0 ∧ cap = 0 ∧ zs = []) ∨
  ∃ x, a = some x ∧ len ≤ cap ∧ cap ≤ maxLen ∧ zs.length = cap ∧ (∀ i, i < zs.length → w.cell? (x.add i) = some (.int k (zs.getD i 0))) ∧ ∀ n ∈ zs, (Lit.int k n).wf = true

set_option maxHeartbeats 4000000 in
theorem walk (a0 : Option Addr) (len0 cap0 : Nat) (z0 : List Int) (w : World) (w0 : IsRow .u8 w a0 len0 cap0 z0) :
    Calls Try.prog 6 #[.slice a0 len0 cap0] w fun e w' => e = .returned (.bool true) ∧ Below w.heap.size w w' := by
  have c0 := code_of w0
  clear w0
  by_cases hb0 : 1048576 < len0
  · go_enter Try.func6, Try.ntmps6
    go_wp2_with fail
    refine (big_yes _ a0 len0 cap0 hb0).mono ?_
    rintro e w' ⟨rfl, rfl⟩
    go_wp2
    go_ret
    exact ⟨rfl, Below.refl _ _⟩
  have HC : Hid (RdCode w w.heap.size a0 len0) := c0
  clear c0
  go_enter Try.func6, Try.ntmps6
  go_wp2_with fail
  refine (big_no _ a0 len0 cap0 (by omega)).mono ?_
  rintro e w' ⟨rfl, rfl⟩
  go_wp2_with fail
  refine (draw_find _ a0 len0 cap0 (by omega) HC.out).mono ?_
  rintro e w1 ⟨m, x, y, n, rfl, _, hx, hy, hn, hb⟩
  have HB1 : Hid (Below w.heap.size w w1) := hb
  clear hb hx hy hn
  have HFI : Hid (∀ w, Calls _ _ _ w _) := fun w => impl_free m x y w
  have HFS : Hid (∀ w, Calls _ _ _ w _) := fun w => spec_free m x y w
  have HGI : Hid (∀ w, Calls _ _ _ w _) := fun w => impl_gaps m x y w
  have HRI : Hid (∀ w, Calls _ _ _ w _) := fun w => impl_find m x y n w
  have HRM : Hid (0 ≤ freeOf m x y → 1 ≤ n → n ≤ 128 → _) := room_is m x y n
  obtain ⟨hs1, hs2, hs3⟩ := gapsOfM_sum m x y
  generalize gapsOfM m x y = G at HGI HRM hs1 hs2 hs3
  generalize freeOf m x y = fr at HFI HFS HRM
  generalize findOf m x y n = fd at HRI HRM
  have hrr : (fr != fr) = false := by simp
  have hre : (fr == fr) = true := by simp
  go_wp2_with fail
  refine (HFI.out _).mono ?_
  rintro e w2 ⟨rfl, hb2⟩
  have HB2 : Hid (Below w.heap.size w w2) := HB1.out.trans (hb2.mono HB1.out.size)
  clear hb2
  go_wp2_with fail
  refine (HFS.out _).mono ?_
  rintro e w3 ⟨rfl, hb3⟩
  have HB3 : Hid (Below w.heap.size w w3) := HB2.out.trans (hb3.mono HB2.out.size)
  clear hb3
  by_cases h1 : fr < 0
  · clear HRM hs1 hs2 hs3
    go_wp2_with fail
    refine (HFS.out _).mono ?_
    rintro e w4 ⟨rfl, hb4⟩
    have HB4 : Hid (Below w.heap.size w w4) := HB3.out.trans (hb4.mono HB3.out.size)
    clear hb4
    go_wp2
    go_ret
    exact ⟨rfl, HB4.out⟩
  by_cases h2 : n < 1
  · clear HRM hs1 hs2 hs3
    go_wp2_with fail
    refine (HFS.out _).mono ?_
    rintro e w4 ⟨rfl, hb4⟩
    have HB4 : Hid (Below w.heap.size w w4) := HB3.out.trans (hb4.mono HB3.out.size)
    clear hb4
    go_wp2
    go_ret
    exact ⟨rfl, HB4.out⟩
  by_cases h3 : 128 < n
  · clear HRM hs1 hs2 hs3
    go_wp2_with fail
    refine (HFS.out _).mono ?_
    rintro e w4 ⟨rfl, hb4⟩
    have HB4 : Hid (Below w.heap.size w w4) := HB3.out.trans (hb4.mono HB3.out.size)
    clear hb4
    go_wp2
    go_ret
    exact ⟨rfl, HB4.out⟩
  obtain ⟨r1, r2, r3, r4⟩ := HRM.out (by omega) (by omega) (by omega)
  have HR1 : Hid (fr = (sumLen G : Int)) := r1
  have HR2 : Hid (G.Pairwise fun s t => s.1 + s.2 < t.1) := r2
  have HR3 : Hid (decide (0 ≤ fd) = G.any (fun s => decide (n ≤ (s.2 : Int)))) := r3
  have HR4 : Hid (fr ≤ (n - 1) * G.length ∨ 0 ≤ fd) := r4
  have HTK : Hid (∀ k, sumLen (G.take k) ≤ 128) := fun k => Nat.le_trans (sumLen_take_le G k) hs1
  have HM : Hid (∀ s ∈ G, s.1 + s.2 ≤ 128) := hs3
  have HGL : Hid (G.length ≤ 128) := hs2
  clear HRM r1 r2 r3 r4 hs1 hs3
  go_wp2_with fail
  refine (HGI.out _).mono ?_
  rintro e w4 ⟨v, rfl, hown, hb4⟩
  have HSP : Hid (Spans w4 v G) := spans_of_row hown
  have HB4 : Hid (Below w.heap.size w w4) := HB3.out.trans (hb4.mono HB3.out.size)
  obtain ⟨ad, cap, rfl, hsp⟩ := HSP.out
  clear hown hb4 hsp
  go_wp2
  go_loopw [9, 10, 11] (fun f q i wr => ∃ k : Nat, k ≤ G.length ∧ i = .int .i64 (k : Int) ∧ f = .int .i64 (sumLen (G.take k) : Int) ∧ q = .bool ((G.take k).any (fun s => decide (n ≤ (s.2 : Int)))) ∧ Below w4.heap.size w4 wr) (fun _ _ i _ => G.length - (intOf i).toNat)
  case atStart => exact ⟨0, Nat.zero_le _, rfl, rfl, rfl, Below.refl _ _⟩
  case round =>
    obtain ⟨k, hk, rfl, rfl, rfl, hb⟩ := hrel
    have HB : Hid (Below w4.heap.size w4 wr) := hb
    clear hb
    by_cases hlt : k < G.length
    · have hlti : (k : Int) < (G.length : Int) := by omega
      have hk0 : (0 : Int) ≤ (k : Int) := by omega
      have HST := sumLen_take G k hlt
      have HAN : (G.take (k + 1)).any (fun s => decide (n ≤ (s.2 : Int))) = ((G.take k).any (fun s => decide (n ≤ (s.2 : Int))) || decide (n ≤ ((G[k]).2 : Int))) := by
        rw [List.take_succ_eq_append_getElem hlt, List.any_append]
        simp
      obtain ⟨ad', cap', he, hcs⟩ := HSP.out.below HB.out
      injection he with he1 he2 he3
      subst he1
      obtain ⟨bk, rfl, c0, c1⟩ := hcs k hlt
      have hle1 := HTK.out k
      have hle2 := HTK.out (k + 1)
      have hsm := HM.out (G[k]) (List.getElem_mem _)
      rw [HST] at hle2
      have HST' : Hid (sumLen (G.take (k + 1)) = sumLen (G.take k) + (G[k]).2) := HST
      have HAN' : Hid ((G.take (k + 1)).any (fun s => decide (n ≤ (s.2 : Int))) = ((G.take k).any (fun s => decide (n ≤ (s.2 : Int))) || decide (n ≤ ((G[k]).2 : Int)))) := HAN
      have HBD : Hid (∀ j, Below w4.heap.size w4 (wr.drewN j)) := fun j => ⟨HB.out.os, HB.out.tape, HB.out.output, HB.out.size, HB.out.block⟩
      clear HST HAN he3
      cases k with
      | zero =>
        generalize G[0] = s at c0 c1 HST' hle2 HAN' hsm
        obtain ⟨p, z⟩ := s
        simp only at c0 c1 HST' hle2 HAN' hsm
        have hz : (z : Int) ≤ 128 := by omega
        rw [Nat.zero_mul] at c0 c1
        clear hcs hle1 hle2
        have HS0 : Hid (sumLen (G.take 0) = 0) := rfl
        have HA0 : Hid ((G.take 0).any (fun s => decide (n ≤ (s.2 : Int))) = false) := rfl
        rw [HS0.out, HA0.out]
        have hlen0 : (0 : Int) < (G.length : Int) := by omega
        go_wp2
        go_quiet (fail)
        go_wp2
        go_roundw
        case rel => exact ⟨0 + 1, by omega, by go_num, by rw [HST'.out, HS0.out]; go_num, by rw [HAN'.out, HA0.out]; simp, HBD.out _⟩
        case measure => simp [intOf]; omega
      | succ j =>
        obtain ⟨bk', he, d0, d1⟩ := hcs j (by omega)
        injection he with he
        injection he with he _ _
        subst he
        have hrise := (List.pairwise_iff_getElem.1 HR2.out) j (j + 1) (by omega) hlt (by omega)
        have hsj := HM.out (G[j]'(by omega)) (List.getElem_mem _)
        generalize G[j + 1] = s at c0 c1 HST' hle2 HAN' hsm hrise
        generalize G[j]'(by omega) = s' at d0 d1 hrise hsj
        obtain ⟨p, z⟩ := s
        obtain ⟨p', z'⟩ := s'
        simp only at c0 c1 d0 d1 HST' hle2 HAN' hsm hrise hsj
        have hz : (z : Int) ≤ 128 := by omega
        have hw1 : IntKind.i64.wrap ((p' : Int) + (z' : Int)) = (p' : Int) + (z' : Int) := by rw [IntKind.wrap_i64]; omega
        have hcmp : ¬ (p : Int) ≤ (p' : Int) + (z' : Int) := by omega
        have hj0 : (0 : Int) < ((j + 1 : Nat) : Int) := by omega
        have hj1 : ((j + 1 : Nat) : Int) - 1 = (j : Int) := by omega
        have hj2 : (j : Int) < (G.length : Int) := by omega
        have hjs : j ≤ 128 := by omega
        generalize sumLen (G.take (j + 1)) = S at HST' hle1 hle2 ⊢
        generalize (G.take (j + 1)).any (fun s => decide (n ≤ (s.2 : Int))) = B at HAN' ⊢
        have hS : (S : Int) ≤ 128 := by omega
        have hSz : (S : Int) + (z : Int) ≤ 128 := by omega
        clear hcs hle1 hle2 hrise hsm hsj
        cases B with
        | true =>
          go_wp2
          go_quiet (fail)
          go_wp2
          go_roundw
          case rel => exact ⟨j + 1 + 1, by omega, by go_num, by rw [HST'.out]; go_num, by rw [HAN'.out]; simp, HBD.out _⟩
          case measure => simp [intOf]; omega
        | false =>
          go_wp2
          go_quiet (fail)
          go_wp2
          go_roundw
          case rel => exact ⟨j + 1 + 1, by omega, by go_num, by rw [HST'.out]; go_num, by rw [HAN'.out]; simp, HBD.out _⟩
          case measure => simp [intOf]; omega
    · have hk2 : k = G.length := by omega
      subst hk2
      rw [List.take_of_length_le (Nat.le_refl _), ← HR1.out, ← HR3.out]
      obtain ⟨q, hq⟩ : ∃ q : Nat, n = (q : Int) + 1 := ⟨(n - 1).toNat, by omega⟩
      subst hq
      have hprod : q * G.length ≤ 127 * 128 := Nat.mul_le_mul (by omega) (by omega)
      have hp1 : (q : Int) + 1 - 1 = (q : Int) := by omega
      have hp2 : (q : Int) * (G.length : Int) = ((q * G.length : Nat) : Int) := (Int.natCast_mul _ _).symm
      have hr4 := HR4.out
      rw [hp1, hp2] at hr4
      have hwm : IntKind.i64.wrap ((q : Int) * (G.length : Int)) = ((q * G.length : Nat) : Int) := by rw [hp2, IntKind.wrap_i64]; omega
      generalize q * G.length = M at hwm hr4 hprod
      have HBw : Hid (Below w.heap.size w wr) := HB4.out.trans (HB.out.mono HB4.out.size)
      clear hp2 hprod
      by_cases hfd : 0 ≤ fd
      · have e1 : decide (0 ≤ fd) = true := by simpa using hfd
        rw [e1]
        clear hr4
        go_wp2_with fail
        refine (HRI.out _).mono ?_
        rintro e w5 ⟨rfl, hb5⟩
        have HB5 : Hid (Below w.heap.size w w5) := HBw.out.trans (hb5.mono HBw.out.size)
        clear hb5
        by_cases hm : fr ≤ (M : Int)
        · have e2 : decide (fr ≤ (M : Int)) = true := by simpa using hm
          go_wp2
          go_ret
          exact ⟨rfl, HB5.out⟩
        · have e2 : decide (fr ≤ (M : Int)) = false := by simpa using hm
          go_wp2
          go_ret
          exact ⟨rfl, HB5.out⟩
      · have e1 : decide (0 ≤ fd) = false := by simpa using hfd
        have hm : fr ≤ (M : Int) := by omega
        have e2 : decide (fr ≤ (M : Int)) = true := by simpa using hm
        rw [e1]
        clear hr4
        go_wp2_with fail
        refine (HRI.out _).mono ?_
        rintro e w5 ⟨rfl, hb5⟩
        have HB5 : Hid (Below w.heap.size w w5) := HBw.out.trans (hb5.mono HBw.out.size)
        clear hb5
        go_wp2
        go_ret
        exact ⟨rfl, HB5.out⟩

set_option maxRecDepth 100000 in
theorem lifted (os : Os) (started : os.Started) (H : Type) (enc : TypeId × Value → H) :
    ReturnsInHanded {} Try.checked os 6 .any (Rows.fnRoomSpec.pre6 enc Try.prog Try.f6 Rows.fnRoomRow.domain false) (Rows.fnRoomSpec.post enc Try.prog Try.f6 false true false false) := by
  refine returnsInHanded_of_change (C := Try.checked) own started (by kernel_rfl) Try.func6
    (ChangeSpec.witness6 (enc := enc) (C := Try.checked) false ⟨#[], #[.slice none 0 0], []⟩ 8 (by kernel_rfl) (by kernel_rfl) (by kernel_rfl) (by kernel_rfl)) ?_
  intro W base args ds gs before hval0 hW hcnd _
  have hval : ∀ (j : Nat) t v, Try.f6.params[j]? = some t → args[j]? = some v → Value.okWide Try.prog W .any base t v := hval0
  have hW' := hW
  obtain ⟨p, q, hA0, hV, rfl, hfz, hnd⟩ := hW
  have hA : DataW.TrodAll enc Try.prog W 0 (fun _ => true) true Try.f6.params.toList args.toList ds p := hA0
  rw [Try.params6] at hA hval
  obtain ⟨v0, vs0, d0, ds0, p0, q0, hargs, rfl, rfl, h0, r0⟩ := trodAll_cons hA
  obtain ⟨rfl, rfl, rfl⟩ := trodAll_nil r0
  obtain rfl : args = #[v0] := by cases args; simp_all
  obtain ⟨rfl, rfl⟩ := trodVars_none hV
  obtain ⟨a0, len0, cap0, rfl⟩ := okWide_slice Try.underlying22 (hval 0 22 v0 rfl rfl)
  have k0 := h0
  have lt0 : ∀ x ∈ p0, x.block < W.heap.size := by obtain ⟨m, hm⟩ := k0; exact DataW.trod_lt m _ _ _ hm
  obtain ⟨z0, w0⟩ : ∃ zs, IsRow .u8 W a0 len0 cap0 zs := by
    obtain ⟨fuel, hf⟩ := h0
    rcases open_ints Try.underlying22 Try.underlying5 (by kernel_rfl) hf with ⟨hcs, _⟩ | ⟨x, l, c, zs, hcs, _, hl, hm, hz, _, hcell, hwz⟩
    · simp [Value.cells] at hcs
      obtain ⟨rfl, rfl, rfl⟩ := hcs
      exact ⟨[], .inl ⟨rfl, rfl, rfl, rfl⟩⟩
    · simp [Value.cells] at hcs
      obtain ⟨rfl, rfl, rfl⟩ := hcs
      exact ⟨zs, .inr ⟨_, rfl, hl, hm, by simpa using hz, hcell, hwz⟩⟩
  clear hA0 hval0
  refine (walk a0 len0 cap0 z0 W w0).mono fun e W' ⟨he, bel⟩ => ?_
  subst he
  exact ⟨_, rfl, _, _, _, [], _, [], hW', trodAll_mk1 (shut_bool Try.underlying4 _), (trodAll_cons_mk (Below.trod laidOut (by kernel_rfl) (of_decide_eq_true (by kernel_rfl)) k0 bel lt0) trodAll_mk0), rfl, bel.frame _, fun h => by cases h⟩

theorem over : Rows.fnRoomRow.holds Try.pinned (OpenSpec.ofChange Rows.fnRoomSpec) :=
  OpenClaim.holds_of_wide 6 Try.f6 rfl rfl rfl rfl rfl rfl rfl ⟨rfl, rfl, rfl, rfl, rfl⟩ rfl rfl rfl rfl rfl (by kernel_rfl) Try.func6 (by kernel_rfl)
    (of_decide_eq_true (by kernel_rfl)) (by unfold Func.isWrapper; first | (rw [if_pos (by decide +kernel)]; kernel_rfl) | (rw [if_neg (by decide +kernel)]; exact ⟨rfl, rfl⟩))
    (fun os started H enc _ => lifted os started H enc)

theorem proved : Rows.FnRoomSaid := over
#print axioms proved
end Go.Proofs.Ytkckhklllcggeaa.fnRoom
