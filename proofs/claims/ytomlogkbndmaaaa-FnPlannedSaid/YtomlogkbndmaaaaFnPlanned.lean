/-
  FnPlanned: for every code the law on drawn configs, maps and types (each place that is planned was free, lies in data, and no two have a line together) returns true, and the code reads as before; no condition.
-/
import Derived.Test.YtomlogkbndmaaaaRows
import Derived.WalkKit
import Derived.Test.YtomlogkbndmaaaaPlanLaw
import Derived.Test.YtomlogkbndmaaaaPlan2
import Derived.Test.YtomlogkbndmaaaaPlan3
import Derived.Test.YtomlogkbndmaaaaDrawP
import Derived.Test.YtomlogkbndmaaaaLater
import Derived.ProofKit
import Derived.OpenShut
import Derived.ShutString
import Derived.ChangeOld
import Derived.Below
namespace Go.Proofs.Ytomlogkbndmaaaa.fnPlanned
open Go.ChangeShapes Go.WideShapes Go.ChangeAt Go.RowKit
open Go.ChangeMaps (open_string shut_string)
set_option linter.unusedVariables false
open ints rd kinds obj img pl later lb

theorem own : ownKnob Try.prog.godebug = none := by kernel_rfl
theorem laidOut : laidOutB Try.prog = true := by kernel_rfl

/-- WHAT THE WALK IS TOLD OF A SLICE OF INTEGERS THAT CAME IN: it is nil; or it leads to a row of 'cap' cells, the numbers 'zs' (the first 'len' are its elements, the rest its spare room), each fitting its kind. -/
def IsRow (k : IntKind) (w : World) (a : Option Addr) (len cap : Nat) (zs : List Int) : Prop :=
  (a = none ∧ len = 0 ∧ cap = 0 ∧ zs = []) ∨
  ∃ x, a = some x ∧ len ≤ cap ∧ cap ≤ maxLen ∧ zs.length = cap ∧ (∀ i, i < zs.length → w.cell? (x.add i) = some (.int k (zs.getD i 0))) ∧ ∀ n ∈ zs, (Lit.int k n).wf = true

set_option maxRecDepth 20000 in
theorem walk (a0 : Option Addr) (len0 cap0 : Nat) (z0 : List Int) (w : World) (w0 : IsRow .u8 w a0 len0 cap0 z0) :
    Calls Try.prog 3 #[.slice a0 len0 cap0] w fun e w' => e = .returned (.bool true) ∧ Below w.heap.size w w' := by
  have c0 := code_of w0
  clear w0
  by_cases hb0 : 1048576 < len0
  · go_enter Try.func3, Try.ntmps3
    go_wp2_with fail
    refine (big_yes _ a0 len0 cap0 hb0).mono ?_
    rintro e w' ⟨rfl, rfl⟩
    go_wp2
    go_ret
    exact ⟨rfl, Below.refl _ _⟩
  have HC : Hid (RdCode w w.heap.size a0 len0) := c0
  clear c0
  go_enter Try.func3, Try.ntmps3
  go_wp2_with fail
  refine (big_no _ a0 len0 cap0 (by omega)).mono ?_
  rintro e w' ⟨rfl, rfl⟩
  go_wp2_with fail
  refine (draw_planned _ a0 len0 cap0 (by omega) HC.out).mono ?_
  rintro e w1 ⟨⟨n1, n2, n3, v, vt, m, rfl, hbd, hm65, xs, ts, hx3, hxs, ht9, hown, hownt⟩, hb1⟩
  obtain ⟨av, gv, cv, rfl, _, htx⟩ := txt.txts_of_row hown
  obtain ⟨at_, gt, ct, rfl, _, hit⟩ := ints_of_row hownt
  obtain ⟨Y, hY⟩ : ∃ Y, Y = w1.alloc (.cells #[.int .i64 n1, .int .i64 n2, .int .i64 n3, .slice av xs.length cv] 26) := ⟨_, rfl⟩
  have HY : Hid (Y = w1.alloc (.cells #[.int .i64 n1, .int .i64 n2, .int .i64 n3, .slice av xs.length cv] 26)) := hY
  have hby : Below w1.heap.size w1 Y := by rw [hY]; exact (Below.refl _ _).alloc (Nat.le_refl _) _
  have hbx : Box4 w1.heap.size n1 n2 n3 (.slice av xs.length cv) Y := by rw [hY]; exact Box4.start _ _ _ _ _ _
  obtain ⟨yb, hyb⟩ : ∃ y, y = w1.heap.size := ⟨_, rfl⟩
  have HYB : Hid (yb = w1.heap.size) := hyb
  rw [← hyb] at hbx
  have HK : Hid (∀ w', Below Y.heap.size Y w' → Box4 yb n1 n2 n3 (.slice av xs.length cv) w') := fun w' h => hbx.below h
  have hsY : Strs Y av xs := htx.strs.below hby
  have hiY : Nums Y at_ ts := (hit.below hby).nums
  have HST : Hid (∀ w', Below Y.heap.size Y w' → Strs w' av xs) := fun w' h => hsY.below h
  have HNT : Hid (∀ w', Below Y.heap.size Y w' → Nums w' at_ ts) := fun w' h => hiY.below h
  have HEnd : Hid (∀ w', Below Y.heap.size Y w' → Below w.heap.size w w') := fun w' h => (hb1.trans (hby.mono hb1.size)).trans (h.mono (hb1.trans (hby.mono hb1.size)).size)
  have hz : ∀ i (hi : i < xs.length), xs[i].size ≤ 1048576 := fun i hi => by have := hxs _ (List.getElem_mem hi); omega
  have HZ : Hid (∀ i (hi : i < xs.length), xs[i].size ≤ 1048576) := hz
  have HPI : Hid (∀ w', Below Y.heap.size Y w' → Calls Try.prog 9 #[.agg #[.int .i64 n1, .int .i64 n2, .int .i64 n3, .slice av xs.length cv], .string m, .slice at_ ts.length ct] w' fun e w'' => PlAns n1 n2 n3 xs m ts w' e w'') := fun w' h => (impl_plan w' n1 n2 n3 av cv xs m at_ ct ts (by omega) (hsY.below h) hz (by omega) (hiY.below h)).mono fun _ _ q => q.1
  have HPS : Hid (∀ w', Below Y.heap.size Y w' → Calls Try.prog 10 #[.agg #[.int .i64 n1, .int .i64 n2, .int .i64 n3, .slice av xs.length cv], .string m, .slice at_ ts.length ct] w' fun e w'' => PlAns n1 n2 n3 xs m ts w' e w'') := fun w' h => (spec_plan w' n1 n2 n3 av cv xs m at_ ct ts (by omega) (hsY.below h) hz (by omega) (hiY.below h)).mono fun _ _ q => q.1
  have HPN : Hid (∀ (q : ByteArray) w', Below Y.heap.size Y w' → Calls Try.prog 9 #[.agg #[.int .i64 n1, .int .i64 n2, .int .i64 n3, .slice av xs.length cv], .string q, .slice none 0 0] w' fun e w'' => ∃ (b : Bool) (aN : Option Addr) (cN : Nat), e = .returned (.tuple #[.slice aN 0 cN, .bool b]) ∧ Below w'.heap.size w' w'') := fun q w' h => (impl_plan w' n1 n2 n3 av cv xs q none 0 [] (by omega) (hsY.below h) hz (by simp) (fun i hi => by cases hi)).mono fun e w'' hq => by
    obtain ⟨v, rfl, ho, hb⟩ := hq.1
    rw [plan_nil] at ho
    obtain ⟨aN, gN, cN, rfl, _, _⟩ := ints_of_row (xs := []) ho
    exact ⟨_, aN, cN, rfl, hb⟩
  have HFD : Hid (∀ w', Below Y.heap.size Y w' → Calls _ _ _ w' _) := fun w' h => impl_first w' n1 n2 n3 av cv xs (by omega) (hsY.below h) hz
  have HTR : Hid (planB n1 n2 n3 xs m ts = true → ∃ q, planK n1 n2 xs ts m ts.length = some (q, planV n1 n2 n3 xs m ts) ∧ configOk n1 n2 n3 xs = true ∧ mapOk m = true ∧ allIn xs.length ts ts.length = true) := plan_true
  have HVL : Hid ((planV n1 n2 n3 xs m ts).length ≤ 1048576) := planV_len n1 n2 n3 xs m ts (by omega)
  unfold PlAns at HPI HPS
  generalize planV n1 n2 n3 xs m ts = l at HPI HPS HTR HVL
  generalize planB n1 n2 n3 xs m ts = pb at HPI HPS HTR
  have hqq : (pb == pb) = true := by simp
  have hqn : (pb != pb) = false := by simp
  have htl : ts.length ≤ 9 := ht9
  have HBN : Hid (0 ≤ n1 ∧ n1 ≤ 128 ∧ 0 ≤ n2 ∧ n2 ≤ 32 ∧ 0 ≤ n3 ∧ n3 ≤ 400) := hbd
  clear hY hby hbx hyb hown hownt htx hit hsY hiY hxs hz ht9 hb1 hbd hm65
  obtain ⟨m0, m1, m2, m3⟩ := HK.out Y (Below.refl _ _)
  go_wp2_with (rw [← HY.out, ← HYB.out])
  refine (HPI.out Y (Below.refl _ _)).mono ?_
  rintro e w2 ⟨v, rfl, hown, hb2⟩
  obtain ⟨al, gl, cl, rfl, _, hi2⟩ := ints_of_row hown
  have HB2 : Hid (Below Y.heap.size Y w2) := hb2
  have HL2 : Hid (Ints w2 al gl l) := hi2
  clear hown hi2 hb2 m0 m1 m2 m3
  obtain ⟨m0, m1, m2, m3⟩ := HK.out w2 HB2.out
  go_wp2_with fail
  refine (HPS.out w2 HB2.out).mono ?_
  rintro e w3 ⟨v, rfl, hown, hb3⟩
  obtain ⟨am, gm, cm, rfl, _, hi3⟩ := ints_of_row hown
  have HB3 : Hid (Below Y.heap.size Y w3) := HB2.out.trans (hb3.mono HB2.out.size)
  have HL3 : Hid (Ints w3 al gl l) := HL2.out.below hb3
  have HM3 : Hid (Ints w3 am gm l) := hi3
  clear hown hi3 hb3 m0 m1 m2 m3
  go_wp2_with fail
  refine (sameInts_same w3 al am gl gm cl cm l HVL.out HL3.out HM3.out).mono ?_
  rintro e w4 ⟨rfl, hb4⟩
  have HB4 : Hid (Below Y.heap.size Y w4) := HB3.out.trans (hb4.mono HB3.out.size)
  have HL4 : Hid (Ints w4 al gl l) := HL3.out.below hb4
  have HM4 : Hid (Ints w4 am gm l) := HM3.out.below hb4
  clear hb4
  cases hpb : pb with
  | false =>
    rw [hpb] at hqq hqn
    go_wp2_with fail
    refine (sameInts_same w4 al am gl gm cl cm l HVL.out HL4.out HM4.out).mono ?_
    rintro e w5 ⟨rfl, hb5⟩
    have HB5 : Hid (Below Y.heap.size Y w5) := HB4.out.trans (hb5.mono HB4.out.size)
    clear hb5
    go_wp2
    go_ret
    exact ⟨rfl, HEnd.out _ HB5.out⟩
  | true =>
    obtain ⟨qe, hpk, hcf, hmo, hall⟩ := HTR.out hpb
    have HSTP : Hid (∀ k, k < ts.length → ∃ (qk : ByteArray) (t u : Nat), planK n1 n2 xs ts m k = some (qk, l.take k) ∧ l.getD k 0 = (t : Int) ∧ runOf (kd xs (ts.getD k 0)) = (u : Int) ∧ takeOk qk (t : Int) (u : Int) = true ∧ 4 + n2 ≤ (t : Int) ∧ (t : Int) + (u : Int) ≤ n1 ∧ t + u ≤ 128 ∧ planK n1 n2 xs ts m (k + 1) = some (turned qk (t : Int) (u : Int), l.take (k + 1))) := plan_steps n1 n2 xs ts m ts.length hpk
    have HLL : Hid (l.length = ts.length) := planK_len n1 n2 xs ts m ts.length hpk
    have HIN : Hid (∀ k, k < ts.length → placeB xs.length (ts.getD k 0) = true) := fun k q => allIn_at xs.length ts hall k q
    have hfd : firstData n1 n2 n3 xs = 4 + n2 := by unfold firstData; rw [hcf, if_pos rfl]
    rw [hfd] at HFD
    rw [hpb] at hqq hqn
    have HP0 : Hid (planK n1 n2 xs ts m 0 = some (m, l.take 0)) := rfl
    clear hpk hcf hmo hall hfd hpb HTR HPI HPS HM4
    rw [HLL.out]
    go_wp2
    go_loopw [4, 10] (fun sm i wr => ∃ (k : Nat) (qk : ByteArray), k ≤ ts.length ∧ i = .int .i64 (k : Int) ∧ sm = .string qk ∧ planK n1 n2 xs ts m k = some (qk, l.take k) ∧ Ints wr al gl l ∧ Below Y.heap.size Y wr) (fun _ i _ => ts.length - (intOf i).toNat)
    case atStart => exact ⟨0, m, Nat.zero_le _, rfl, rfl, HP0.out, HL4.out, HB4.out⟩
    case round =>
      obtain ⟨k, qk, hk, rfl, rfl, hpk, hil, hb⟩ := hrel
      have HB : Hid (Below Y.heap.size Y wr) := hb
      have HIL : Hid (Ints wr al gl l) := hil
      have HPK : Hid (planK n1 n2 xs ts m k = some (qk, l.take k)) := hpk
      clear hb hil hpk
      by_cases hlt : k < ts.length
      · have hlti : (k : Int) < (ts.length : Int) := by omega
        have hk0 : (0 : Int) ≤ (k : Int) := by omega
        obtain ⟨qk', t, u, g1, g2, g3, g4, g5, g6, g7, g8⟩ := HSTP.out k hlt
        obtain rfl : qk = qk' := by
          have h1 := HPK.out
          rw [g1] at h1
          exact ((Prod.mk.inj (Option.some.inj h1)).1).symm
        obtain ⟨p, hpe, hpl⟩ := placeB_nat (HIN.out k hlt)
        obtain ⟨b2, off, rfl, c0⟩ := HNT.out wr HB.out k hlt
        rw [getD_intI2 ts k hlt, hpe] at c0
        obtain ⟨b3, o3, hae, d0⟩ := HST.out wr HB.out p hpl
        rw [hpe, kd_at p hpl] at g3
        obtain ⟨rfl, cl0, _⟩ := HIL.out k (by have := HLL.out; omega)
        rw [getD_intI2 l k (by have := HLL.out; omega), g2] at cl0
        have HRU : Hid (∀ w, Calls Try.prog 12 #[.string xs[p]] w fun e w' => e = .returned (.int .i64 (u : Int)) ∧ w' = w) := fun w => (impl_run xs[p] w (HZ.out p hpl)).mono fun _ _ h => ⟨by rw [h.1, g3], h.2.symm⟩
        have HTK : Hid (∀ w, Calls Try.prog 13 #[.string qk, .int .i64 (t : Int), .int .i64 (u : Int)] w fun e w' => e = .returned (.tuple #[.string (turned qk (t : Int) (u : Int)), .bool true]) ∧ Below w.heap.size w w') := fun w => (impl_take w qk (t : Int) (u : Int)).mono fun _ _ h => by
          rw [g4] at h
          exact h
        have HNX : Hid (planK n1 n2 xs ts m (k + 1) = some (turned qk (t : Int) (u : Int), l.take (k + 1))) := g8
        generalize turned qk (t : Int) (u : Int) = q2 at HTK HNX
        have hpl2 : (p : Int) < (xs.length : Int) := by omega
        have hp0 : (0 : Int) ≤ (p : Int) := by omega
        subst hae
        generalize xs[p] = sp at d0 HRU
        obtain ⟨m0, m1, m2, m3⟩ := HK.out wr HB.out
        have HBd : Hid (∀ j, Below Y.heap.size Y (wr.drewN j)) := fun j => ⟨HB.out.os, HB.out.tape, HB.out.output, HB.out.size, HB.out.block⟩
        have HILd : Hid (∀ j, Ints (wr.drewN j) (some ⟨gl, 0, none⟩) gl l) := fun j => HIL.out
        have hwtu : IntKind.i64.wrap ((t : Int) + (u : Int)) = (t : Int) + (u : Int) := by rw [IntKind.wrap_i64]; omega
        have hG2 : Hid (l.getD k 0 = (t : Int)) := g2
        have hd2 : decide (n1 < (t : Int) + (u : Int)) = false := decide_eq_false (by omega)
        obtain ⟨f, hf⟩ : ∃ f, f = 4 + n2 := ⟨_, rfl⟩
        have hd1 : decide ((t : Int) < f) = false := decide_eq_false (by omega)
        have HFF : Hid (4 + n2 = f) := hf.symm
        clear g1 g2 g3 g4 g5 g6 g7 g8 hpe hf
        go_wp2
        go_quiet (first | (go_at_call 12; refine Calls.quiet_of_same (HRU.out _)))
        go_wp2_with fail
        refine (HTK.out _).mono ?_
        rintro e w6 ⟨rfl, hb6⟩
        have HB6 : Hid (Below Y.heap.size Y w6) := (HBd.out _).trans (hb6.mono (HBd.out _).size)
        have HI6 : Hid (Ints w6 (some ⟨gl, 0, none⟩) gl l) := (HILd.out _).below hb6
        clear hb6 m0 m1 m2 m3 c0 d0 cl0
        obtain ⟨_, c6, _⟩ := HI6.out k (by have := HLL.out; omega)
        rw [getD_intI2 l k (by have := HLL.out; omega), hG2.out] at c6
        obtain ⟨m0, m1, m2, m3⟩ := HK.out w6 HB6.out
        have HFL : Hid (∀ (n : Later w6), _) := fun n => HFD.out n.world (HB6.out.trans (n.below.mono HB6.out.size))
        rw [HFF.out] at HFL
        have M0 := fun n : Later w6 => Later.cell m0 n
        have M1 := fun n : Later w6 => Later.cell m1 n
        have M2 := fun n : Later w6 => Later.cell m2 n
        have M3 := fun n : Later w6 => Later.cell m3 n
        have C6 := fun n : Later w6 => Later.cell c6 n
        have hne := some_later w6
        clear m0 m1 m2 m3 c6
        go_wp2
        refine region_later (by kernel_rfl) (by kernel_rfl) ?_
        repeat (go_big_quiet_step (first | (go_at_call 14; exact later_of (HFL.out _))))
        refine wpQuiet_nil ?_
        intro w' hw'
        obtain ⟨nn, rfl⟩ := hw'
        have HB7 : Hid (Below Y.heap.size Y nn.world) := HB6.out.trans (nn.below.mono HB6.out.size)
        have HI7 : Hid (Ints nn.world (some ⟨gl, 0, none⟩) gl l) := HI6.out.below nn.below
        generalize nn.world = w7 at HB7 HI7 ⊢
        clear M0 M1 M2 M3 C6
        go_wp2
        go_roundw
        case rel => exact ⟨k + 1, q2, by omega, by go_num, rfl, HNX.out, HI7.out, HB7.out⟩
        case measure => simp [intOf]; omega
      · obtain rfl : k = ts.length := by omega
        obtain ⟨m0, m1, m2, m3⟩ := HK.out wr HB.out
        have heq : ((ts.length : Int) == (ts.length : Int)) = true := by simp
        go_wp2_with fail
        refine (HPN.out qk wr HB.out).mono ?_
        rintro e w6 ⟨b, aN, cN, rfl, hb6⟩
        have HB6 : Hid (Below Y.heap.size Y w6) := HB.out.trans (hb6.mono HB.out.size)
        clear hb6 m0 m1 m2 m3
        go_wp2
        go_ret
        exact ⟨rfl, HEnd.out _ HB6.out⟩

set_option maxRecDepth 100000 in
theorem lifted (os : Os) (started : os.Started) (H : Type) (enc : TypeId × Value → H) :
    ReturnsInHanded {} Try.checked os 3 .any (Rows.fnPlannedSpec.pre6 enc Try.prog Try.f3 Rows.fnPlannedRow.domain false) (Rows.fnPlannedSpec.post enc Try.prog Try.f3 false true false false) := by
  refine returnsInHanded_of_change (C := Try.checked) own started (by kernel_rfl) Try.func3
    (ChangeSpec.witness6 (enc := enc) (C := Try.checked) false ⟨#[], #[.slice none 0 0], []⟩ 8 (by kernel_rfl) (by kernel_rfl) (by kernel_rfl) (by kernel_rfl)) ?_
  intro W base args ds gs before hval0 hW hcnd _
  have hval : ∀ (j : Nat) t v, Try.f3.params[j]? = some t → args[j]? = some v → Value.okWide Try.prog W .any base t v := hval0
  have hW' := hW
  obtain ⟨p, q, hA0, hV, rfl, hfz, hnd⟩ := hW
  have hA : DataW.TrodAll enc Try.prog W 0 (fun _ => true) true Try.f3.params.toList args.toList ds p := hA0
  rw [Try.params3] at hA hval
  obtain ⟨v0, vs0, d0, ds0, p0, q0, hargs, rfl, rfl, h0, r0⟩ := trodAll_cons hA
  obtain ⟨rfl, rfl, rfl⟩ := trodAll_nil r0
  obtain rfl : args = #[v0] := by cases args; simp_all
  obtain ⟨rfl, rfl⟩ := trodVars_none hV
  obtain ⟨a0, len0, cap0, rfl⟩ := okWide_slice Try.underlying22 (hval 0 22 v0 rfl rfl)
  have k0 := h0
  have lt0 : ∀ x ∈ p0, x.block < W.heap.size := by obtain ⟨m, hm⟩ := k0; exact DataW.trod_lt m _ _ _ hm
  obtain ⟨z0, w0⟩ : ∃ zs, IsRow .u8 W a0 len0 cap0 zs := by
    obtain ⟨fuel, hf⟩ := h0
    rcases open_ints Try.underlying22 Try.underlying5 (by kernel_rfl) hf with ⟨hcs, _⟩ | ⟨x, l, c, zs, hcs, _, hl, hm, hz, _, hcell, hwz⟩
    · simp [Value.cells] at hcs
      obtain ⟨rfl, rfl, rfl⟩ := hcs
      exact ⟨[], .inl ⟨rfl, rfl, rfl, rfl⟩⟩
    · simp [Value.cells] at hcs
      obtain ⟨rfl, rfl, rfl⟩ := hcs
      exact ⟨zs, .inr ⟨_, rfl, hl, hm, by simpa using hz, hcell, hwz⟩⟩
  clear hA0 hval0
  refine (walk a0 len0 cap0 z0 W w0).mono fun e W' ⟨he, bel⟩ => ?_
  subst he
  exact ⟨_, rfl, _, _, _, [], _, [], hW', trodAll_mk1 (shut_bool Try.underlying4 _), (trodAll_cons_mk (Below.trod laidOut (by kernel_rfl) (of_decide_eq_true (by kernel_rfl)) k0 bel lt0) trodAll_mk0), rfl, bel.frame _, fun h => by cases h⟩

theorem over : Rows.fnPlannedRow.holds Try.pinned (OpenSpec.ofChange Rows.fnPlannedSpec) :=
  OpenClaim.holds_of_wide 3 Try.f3 rfl rfl rfl rfl rfl rfl rfl ⟨rfl, rfl, rfl, rfl, rfl⟩ rfl rfl rfl rfl rfl (by kernel_rfl) Try.func3 (by kernel_rfl)
    (of_decide_eq_true (by kernel_rfl)) (by unfold Func.isWrapper; first | (rw [if_pos (by decide +kernel)]; kernel_rfl) | (rw [if_neg (by decide +kernel)]; exact ⟨rfl, rfl⟩))
    (fun os started H enc _ => lifted os started H enc)

theorem proved : Rows.FnPlannedSaid := over
#print axioms proved
end Go.Proofs.Ytomlogkbndmaaaa.fnPlanned
