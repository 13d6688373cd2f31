/-
  The object with which words begin, by the program.
-/
import Derived.Test.YtngpmohmnpbcnaaYMath
import Derived.Test.YtngpmohmnpbcnaaYBox
import Derived.Test.YtngpmohmnpbcnaaClone
import Derived.Lib.SlBytesRow
namespace Go.Proofs.Ytngpmohmnpbcnaa.nu
open Go.RowKit
open kinds ints ref obj

theorem oneInt : ∀ w, (Go.sizeOf 2).run Try.prog w = .ok 1 w := fun w => by kernel_rfl
theorem kdH_at {xs : List ByteArray} {h : Int} {p : Nat} (hp : p < xs.length) (e : h / 4 = (p : Int)) : kdH xs h = xs[p] := by
  show kd xs (h / 4) = _
  rw [e]; exact kd_at p hp
set_option maxHeartbeats 2000000 in
set_option maxRecDepth 20000 in
theorem firstYoung_any (w : World) (a : Option Addr) (cap : Nat) (xs : List ByteArray) (b off n vcap : Nat) (vs : List Int) (hx : vs.length = n) (hn : n ≤ 1048576) (h0 : 0 < n) (hcap : n ≤ vcap) (_hxn : xs.length ≤ 1048576) (hl : Strs w a xs) (hv : Nums w (some ⟨b, off, none⟩) vs) (hz : ∀ i (hi : i < xs.length), 1 ≤ xs[i].size ∧ xs[i].size ≤ 23) (hh : vs.getD 0 0 < 9223372036854775808) :
    Calls Try.prog 68 #[.slice a xs.length cap, .slice (some ⟨b, off, none⟩) n vcap] w fun e w' => Below w.heap.size w w' ∧
      ((stepN xs vs 0 = 0 ∧ e = .returned (.tuple #[.agg #[.int .i64 0, .int .i64 0, .slice none 0 0], .bool false])) ∨
       (stepN xs vs 0 ≠ 0 ∧ ∃ g c, e = .returned (.tuple #[.agg #[.int .i64 (vs.getD 0 0 % 4), .int .i64 (vs.getD 0 0 / 4), .slice (some ⟨g, 0, none⟩) (valsA xs vs 0).length c], .bool true]) ∧ w.heap.size ≤ g ∧ Ints w' (some ⟨g, 0, none⟩) g (valsA xs vs 0))) := by
  obtain ⟨W, hW⟩ : ∃ W, W = w.alloc (.cells #[.int .i64 0, .int .i64 0, .slice none 0 0] 71) := ⟨_, rfl⟩
  have HW : Hid (W = w.alloc (.cells #[.int .i64 0, .int .i64 0, .slice none 0 0] 71)) := hW
  have hb0 : Below w.heap.size w W := by rw [hW]; exact (Below.refl _ _).alloc (Nat.le_refl _) _
  have hsz : W.heap.size = w.heap.size + 1 := by rw [hW]; simp
  have HT : Hid (Tri w.heap.size (.int .i64 0) (.int .i64 0) (.slice none 0 0) W) := by rw [hW]; exact Tri.start w _ _ _ _
  have HB0 : Hid (Below w.heap.size w W) := hb0
  have HSZ : Hid (W.heap.size = w.heap.size + 1) := hsz
  have HLW : Hid (Strs W a xs) := hl.below hb0
  have HVW : Hid (Nums W (some ⟨b, off, none⟩) vs) := hv.below hb0
  have HX : Hid (vs.length = n) := hx
  have hv0 : 0 < vs.length := by omega
  obtain ⟨b', off', e', d0⟩ := (hv.below hb0) 0 hv0
  simp only [Option.some.injEq, Addr.mk.injEq, and_true] at e'
  obtain ⟨rfl, rfl⟩ := e'
  rw [getD_of vs 0 hv0, Nat.add_zero] at d0
  have HPL : Hid (∀ w : World, Calls _ _ _ w _) := fun w => isPlace_any w (vs.getD 0 0 / 4) xs.length
  have v0 := HT.out.c0
  have v1 := HT.out.c1
  have v2 := HT.out.c2
  have z0 := HT.out.free 0
  have z1 := HT.out.free 1
  have z2 := HT.out.free 2
  have HNO : Hid (Tri w.heap.size (.int .i64 0) (.int .i64 0) (.slice none 0 0) (((W.setCell ⟨w.heap.size, 0, none⟩ (.int .i64 0)).setCell ⟨w.heap.size, 1, none⟩ (.int .i64 0)).setCell ⟨w.heap.size, 2, none⟩ (.slice none 0 0)) ∧ Below w.heap.size w (((W.setCell ⟨w.heap.size, 0, none⟩ (.int .i64 0)).setCell ⟨w.heap.size, 1, none⟩ (.int .i64 0)).setCell ⟨w.heap.size, 2, none⟩ (.slice none 0 0))) := ⟨HT.out.put _ _ _, put_below HB0.out (Nat.le_refl _) _ _ _⟩
  have HST : Hid (stepN xs vs 0 = if 0 ≤ vs.getD 0 0 ∧ placeB xs.length (vs.getD 0 0 / 4) = true ∧ 0 + 1 + (kdH xs (vs.getD 0 0)).size ≤ vs.length then 1 + (kdH xs (vs.getD 0 0)).size else 0) := rfl
  have HVA : Hid (valsA xs vs 0 = (vs.drop 1).take (kdH xs (vs.getD 0 0)).size) := rfl
  clear hW hl hv hb0 hsz hx
  by_cases hneg : vs.getD 0 0 < 0
  · have HS0 : Hid (stepN xs vs 0 = 0) := by show stepN xs vs 0 = 0; rw [HST.out, if_neg (by omega)]
    generalize stepN xs vs 0 = st at HS0 ⊢
    generalize valsA xs vs 0 = va
    generalize vs.getD 0 0 = hd at d0 hneg
    clear HPL HST HVA hh
    go_enter Try.func68, Try.ntmps68
    go_wp2_with (rw [← HW.out])
    refine bodyPost_ret (v := .tuple #[.agg #[.int .i64 0, .int .i64 0, .slice none 0 0], .bool false]) ?_ rfl ⟨HNO.out.2, .inl ⟨HS0.out, rfl⟩⟩
    obtain ⟨q0, q1, q2, _⟩ := HNO.out.1
    simp [results, Try.results68, go_sem, q0, q1, q2]
  · have hnn : 0 ≤ vs.getD 0 0 := by omega
    have hdn : ¬ vs.getD 0 0 < 0 := hneg
    have hq0 : (vs.getD 0 0).tdiv 4 = vs.getD 0 0 / 4 := Int.tdiv_eq_ediv_of_nonneg hnn
    have hq1 : (vs.getD 0 0).tmod 4 = vs.getD 0 0 % 4 := Int.tmod_eq_emod_of_nonneg hnn
    have hqw : IntKind.i64.wrap (vs.getD 0 0 / 4) = vs.getD 0 0 / 4 := by rw [IntKind.wrap_i64]; omega
    have hqm : IntKind.i64.wrap (vs.getD 0 0 % 4) = vs.getD 0 0 % 4 := by rw [IntKind.wrap_i64]; omega
    cases hp : placeB xs.length (vs.getD 0 0 / 4) with
    | false =>
      have HS0 : Hid (stepN xs vs 0 = 0) := by show stepN xs vs 0 = 0; rw [HST.out, hp, if_neg (by simp)]
      rw [hp] at HPL
      generalize stepN xs vs 0 = st at HS0 ⊢
      generalize valsA xs vs 0 = va
      generalize vs.getD 0 0 % 4 = r at hq1 hqm ⊢
      generalize vs.getD 0 0 / 4 = q at hq0 hqw HPL ⊢
      generalize vs.getD 0 0 = hd at d0 hdn hq0 hq1
      clear HST HVA hh hnn hneg hp
      go_enter Try.func68, Try.ntmps68
      go_wp2_with (rw [← HW.out])
      refine (HPL.out _).mono ?_
      rintro e w2 ⟨rfl, hw2⟩
      have hw3 := hw2.symm
      subst hw3
      go_wp2
      refine bodyPost_ret (v := .tuple #[.agg #[.int .i64 0, .int .i64 0, .slice none 0 0], .bool false]) ?_ rfl ⟨HNO.out.2, .inl ⟨HS0.out, rfl⟩⟩
      obtain ⟨q0, q1, q2, _⟩ := HNO.out.1
      simp [results, Try.results68, go_sem, q0, q1, q2]
    | true =>
      obtain ⟨p, hpe, hpl⟩ := placeB_nat hp
      have hkd := kdH_at hpl hpe
      rw [hp, hpe] at HPL
      rw [hpe] at hq0 hqw
      rw [hkd] at HST HVA
      rw [hpe]
      obtain ⟨b2, o2, rfl, s0⟩ := HLW.out p hpl
      have hs1 := hz p hpl
      have HKS : Hid (xs[p].size ≤ 23) := hs1.2
      have hs0 : 0 < xs[p].size := by omega
      clear hs1 hz
      generalize xs[p] = s at s0 HST HVA HKS hs0
      have hpi : (p : Int) < (xs.length : Int) := by omega
      have hp0 : (0 : Int) ≤ (p : Int) := by omega
      by_cases hfit : 1 + s.size ≤ n
      case neg =>
        have HS0 : Hid (stepN xs vs 0 = 0) := by show stepN xs vs 0 = 0; rw [HST.out, if_neg (by have := HX.out; omega)]
        have hks := HKS.out
        have hgt : (n : Int) < 1 + (s.size : Int) := by omega
        generalize stepN xs vs 0 = st at HS0 ⊢
        generalize valsA xs vs 0 = va
        generalize vs.getD 0 0 % 4 = r at hq1 hqm ⊢
        generalize vs.getD 0 0 = hd at d0 hdn hq0 hq1
        clear HST HVA hh hnn hneg hp hpe hfit hkd
        go_enter Try.func68, Try.ntmps68
        go_wp2_with (rw [← HW.out])
        refine (HPL.out _).mono ?_
        rintro e w2 ⟨rfl, hw2⟩
        have hw3 := hw2.symm
        subst hw3
        go_wp2
        refine bodyPost_ret (v := .tuple #[.agg #[.int .i64 0, .int .i64 0, .slice none 0 0], .bool false]) ?_ rfl ⟨HNO.out.2, .inl ⟨HS0.out, rfl⟩⟩
        obtain ⟨q0, q1, q2, _⟩ := HNO.out.1
        simp [results, Try.results68, go_sem, q0, q1, q2]
      case pos =>
        have HS1 : Hid (stepN xs vs 0 ≠ 0) := by show stepN xs vs 0 ≠ 0; rw [HST.out, if_pos ⟨hnn, hp, by have := HX.out; omega⟩]; omega
        have hgt : ¬ (n : Int) < 1 + (s.size : Int) := by omega
        have hle : (1 : Int) ≤ 1 + (s.size : Int) := by omega
        have hce : 1 + (s.size : Int) ≤ (vcap : Int) := by omega
        have hsl : ∀ W, (Instr.slice 23 (.slice (some ⟨b, off, none⟩) n vcap) (some (.int .i64 1)) (some (.int .i64 (1 + (s.size : Int)))) none).run Try.prog W = .ok (.slice (some ⟨b, off + 1, none⟩) s.size (vcap - 1)) W := fun W => by
          have h1 := Go.Lib.run_slice_window (P := Try.prog) W 23 2 Try.underlying23 oneInt b off n vcap 1 (1 + s.size) (by omega) (by omega)
          rw [Nat.add_sub_cancel_left] at h1
          exact h1
        have hks := HKS.out
        have HVL : Hid ((valsA xs vs 0).length = s.size) := by show _ = _; rw [HVA.out, List.length_take, List.length_drop]; have := HX.out; omega
        have HNU : Hid (Nums W (some ⟨b, off + 1, none⟩) (valsA xs vs 0)) := by show Nums W _ _; rw [HVA.out]; exact Nums.part HVW.out 1 s.size
        have HCL : Hid (∀ w', w' = W → ∀ cc, Calls _ _ _ w' _) := fun w' q cc => clone_any w' (some ⟨b, off + 1, none⟩) s.size cc (valsA xs vs 0) HVL.out hs0 (by have := HKS.out; omega) (q ▸ HNU.out)
        generalize stepN xs vs 0 = st at HS1 ⊢
        generalize valsA xs vs 0 = va at HCL HNU HVL ⊢
        generalize vs.getD 0 0 % 4 = r at hq1 hqm ⊢
        generalize vs.getD 0 0 = hd at d0 hdn hq0 hq1
        clear HST HVA hh hnn hneg hp hpe hfit hkd HNU hs0 h0
        go_enter Try.func68, Try.ntmps68
        go_wp2_with (rw [← HW.out])
        refine (HPL.out _).mono ?_
        rintro e w2 ⟨rfl, hw2⟩
        have hw3 := hw2.symm
        subst hw3
        go_wp2_with fail
        refine (HCL.out _ rfl _).mono ?_
        rintro e w2 ⟨g, c, rfl, hg, hi, hb2⟩
        have HI2 : Hid (Ints w2 (some ⟨g, 0, none⟩) g va) := hi
        have HG : Hid (w.heap.size + 1 ≤ g) := by show w.heap.size + 1 ≤ g; have := HSZ.out; omega
        have HB2 : Hid (Below w.heap.size w w2) := HB0.out.trans (hb2.mono HB0.out.size)
        have HT2 : Hid (Tri w.heap.size (.int .i64 0) (.int .i64 0) (.slice none 0 0) w2) := HT.out.below hb2
        clear hi hg hb2 v0 v1 v2 z0 z1 z2
        have v0 := HT2.out.c0
        have v1 := HT2.out.c1
        have v2 := HT2.out.c2
        have z0 := HT2.out.free 0
        have z1 := HT2.out.free 1
        have z2 := HT2.out.free 2
        go_wp2
        refine bodyPost_ret (v := .tuple #[.agg #[.int .i64 r, .int .i64 (p : Int), .slice (some ⟨g, 0, none⟩) s.size c], .bool true]) ?_ rfl ⟨put_below HB2.out (Nat.le_refl _) _ _ _, .inr ⟨HS1.out, g, c, by rw [HVL.out], by have := HG.out; omega, HI2.out.grown (put_grown _ _ _ _ _) (by have := HG.out; omega)⟩⟩
        obtain ⟨q0, q1, q2, _⟩ := HT2.out.put (.int .i64 r) (.int .i64 (p : Int)) (.slice (some ⟨g, 0, none⟩) s.size c)
        simp [results, Try.results68, go_sem, q0, q1, q2]
end Go.Proofs.Ytngpmohmnpbcnaa.nu
