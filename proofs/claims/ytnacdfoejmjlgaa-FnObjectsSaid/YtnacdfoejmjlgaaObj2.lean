/-
  Objects: whether one is right, by the specification; nothing that was there is written.
-/
import Derived.Test.YtnacdfoejmjlgaaObj1
namespace Go.Proofs.Ytnacdfoejmjlgaa.obj
open Go.RowKit
open kinds ints ref

set_option maxHeartbeats 2000000 in
theorem spec_objok (w : World) (a : Option Addr) (cap : Nat) (xs : List ByteArray) (t : Int) (b : Option Addr) (vcap : Nat) (vs : List Int) (hn : xs.length ≤ 1048576) (hz : ∀ i (hi : i < xs.length), xs[i].size ≤ 1048576) (hl : Strs w a xs) (hvs : Nums w b vs) :
    Calls Try.prog 13 #[.slice a xs.length cap, .agg #[.int .i64 t, .slice b vs.length vcap]] w fun e w' => e = .returned (.bool (objOkB xs t vs)) ∧ Below w.heap.size w w' := by
  obtain ⟨W, hW⟩ : ∃ W, W = w.alloc (.cells #[.int .i64 t, .slice b vs.length vcap] 27) := ⟨_, rfl⟩
  have HW : Hid (W = w.alloc (.cells #[.int .i64 t, .slice b vs.length vcap] 27)) := hW
  have hb0 : Below w.heap.size w W := by rw [hW]; exact (Below.refl _ _).alloc (Nat.le_refl _) _
  have HB0 : Hid (Below w.heap.size w W) := hb0
  have hsz : w.heap.size < W.heap.size := by rw [hW]; simp
  have k0 : W.cell? ⟨w.heap.size, 0, none⟩ = some (.int .i64 t) := by rw [hW, World.cell?_alloc_new]; rfl
  have k1 : W.cell? ⟨w.heap.size, 1, none⟩ = some (.slice b vs.length vcap) := by rw [hW, World.cell?_alloc_new]; rfl
  have HTY : Hid (∀ w', (∃ n, w' = W.drewN n) → Calls Try.prog 32 #[.slice a xs.length cap] w' fun e w'' => e = .returned (.bool (typesOk xs)) ∧ w'' = w') := fun w' q => by
    obtain ⟨n, rfl⟩ := q
    exact (spec_types (W.drewN n) a cap xs hn (fun i hi => (hl.below hb0) i hi) hz).mono fun _ _ h => ⟨h.1, h.2.symm⟩
  have HIN : Hid (∀ w, Calls Try.prog 34 #[.int .i64 t, .int .i64 0, .int .i64 ((xs.length : Int) - 1)] w fun e w' => e = .returned (.bool (placeB xs.length t)) ∧ w' = w) := fun w => (specIn_any w t 0 ((xs.length : Int) - 1)).mono fun _ _ h => ⟨by
    rw [h.1]
    unfold placeB
    have : decide (t ≤ (xs.length : Int) - 1) = decide (t < (xs.length : Int)) := by
      by_cases q : t < (xs.length : Int)
      · rw [decide_eq_true q, decide_eq_true (by omega)]
      · rw [decide_eq_false q, decide_eq_false (by omega)]
    rw [this], h.2.symm⟩
  have hw1 : IntKind.i64.wrap ((xs.length : Int) - 1) = (xs.length : Int) - 1 := by rw [IntKind.wrap_i64]; omega
  have HS : Hid (Strs W a xs ∧ Nums W b vs) := ⟨hl.below hb0, hvs.below hb0⟩
  have HDE : Hid (objOkB xs t vs = (typesOk xs && fitsB xs t vs && allRef (refsL (kd xs t) vs vs.length))) := rfl
  have HBD : Hid (∀ n, Below w.heap.size w (W.drewN n)) := fun n => ⟨hb0.os, hb0.tape, hb0.output, hb0.size, hb0.block⟩
  generalize objOkB xs t vs = res at HDE ⊢
  clear hW hl hvs hb0
  cases ht : typesOk xs with
  | false =>
    rw [ht] at HTY HDE
    have HR : Hid (res = false) := by show res = false; rw [HDE.out]; rfl
    clear ht HDE hz
    go_enter Try.func13, Try.ntmps13
    go_wp2_with fail
    rw [← HW.out]
    go_quiet (first | (go_at_call 32; refine Calls.quiet_of_same (HTY.out _ ⟨_, rfl⟩)))
    go_wp2
    go_ret
    exact ⟨by rw [HR.out]; rfl, HBD.out _⟩
  | true =>
    rw [ht] at HTY HDE
    cases hp : placeB xs.length t with
    | false =>
      rw [hp] at HIN
      have HR : Hid (res = false) := by show res = false; rw [HDE.out]; unfold fitsB; rw [hp]; rfl
      clear ht hp HDE hz
      go_enter Try.func13, Try.ntmps13
      go_wp2_with fail
      rw [← HW.out]
      go_quiet (first | (go_at_call 32; refine Calls.quiet_of_same (HTY.out _ ⟨_, rfl⟩)) | (go_at_call 34; refine Calls.quiet_of_same (HIN.out _)))
      go_wp2
      go_ret
      exact ⟨by rw [HR.out]; rfl, HBD.out _⟩
    | true =>
      rw [hp] at HIN
      obtain ⟨p, rfl, hpl⟩ := placeB_nat hp
      obtain ⟨b2, off, rfl, c0⟩ := HS.out.1 p hpl
      have HDE2 : Hid (res = (((vs.length : Int) == (xs[p].size : Int)) && allRef (refsL xs[p] vs vs.length))) := by
        show res = _
        rw [HDE.out]; unfold fitsB; rw [hp, kd_at p hpl]; rfl
      have hszp : xs[p].size ≤ 1048576 := hz p hpl
      generalize xs[p] = s at c0 HDE2 hszp
      have hpi : (p : Int) < (xs.length : Int) := by omega
      have hp0 : (0 : Int) ≤ (p : Int) := by omega
      clear ht hp HDE hz hpl
      by_cases hlen : vs.length = s.size
      · have hne : ((vs.length : Int) != (s.size : Int)) = false := by simp; omega
        have HR : Hid (res = allRef (refsL s vs vs.length)) := by
          show res = _
          rw [HDE2.out, show ((vs.length : Int) == (s.size : Int)) = true by simp; omega]; rfl
        have HLEN : Hid (vs.length = s.size) := hlen
        obtain ⟨n, hvn⟩ : ∃ n, n = vs.length := ⟨_, rfl⟩
        have HVN : Hid (n = vs.length) := hvn
        rw [← hvn] at k1 hne HR HLEN HW ⊢
        clear hlen HDE2 hvn
        go_enter Try.func13, Try.ntmps13
        go_wp2_with fail
        rw [← HW.out]
        go_quiet (first | (go_at_call 32; refine Calls.quiet_of_same (HTY.out _ ⟨_, rfl⟩)) | (go_at_call 34; refine Calls.quiet_of_same (HIN.out _)))
        go_wp2
        have HBW : Hid (Below w.heap.size w (W.drewN nq)) := HBD.out nq
        have d0 : (W.drewN nq).cell? ⟨w.heap.size, 0, none⟩ = some (.int .i64 (p : Int)) := k0
        have d1 : (W.drewN nq).cell? ⟨w.heap.size, 1, none⟩ = some (.slice b n vcap) := k1
        have e0 : (W.drewN nq).cell? ⟨b2, off + p, none⟩ = some (.string s) := c0
        have HNU : Hid (Nums (W.drewN nq) b vs) := fun i hi => HS.out.2 i hi
        generalize W.drewN nq = V at HBW d0 d1 e0 HNU ⊢
        clear k0 k1 c0 HTY HIN hne HW hw1 HBD
        go_loopw [5] (fun i wr => ∃ k : Nat, k ≤ n ∧ i = .int .i64 (k : Int) ∧ allRef (refsL s vs k) = true ∧ V = wr) (fun i _ => n - (intOf i).toNat)
        case atStart => exact ⟨0, Nat.zero_le _, rfl, rfl, rfl⟩
        case round =>
          obtain ⟨k, hk, rfl, hok, rfl⟩ := hrel
          have HOK : Hid (allRef (refsL s vs k) = true) := hok
          clear hok
          by_cases hlt : k < n
          · have hlti : (k : Int) < (n : Int) := by omega
            have hk0 : (0 : Int) ≤ (k : Int) := by omega
            have hks : k < s.size := by have := HLEN.out; omega
            have hksi : (k : Int) < (s.size : Int) := by omega
            have hIR := isR_at s k hks
            have HRS : Hid (refsL s vs (k + 1) = if isR s k = true then refsL s vs k ++ [vs.getD k 0] else refsL s vs k) := rfl
            have HNO : Hid (allRef (refsL s vs (k + 1)) = false → allRef (refsL s vs n) = false) := allRef_le s vs (k + 1) n (by omega)
            obtain ⟨b3, o3, rfl, c1⟩ := HNU.out k (by have := HVN.out; omega)
            rw [show vs[k]'(by have := HVN.out; omega) = vs.getD k 0 by rw [List.getD_eq_getElem?_getD, List.getElem?_eq_getElem (by have := HVN.out; omega)]; rfl] at c1
            have HRK : Hid (∀ w, Calls _ _ _ w _) := fun w => specRefKind (vs.getD k 0) w
            have hrc := refKind_cases (vs.getD k 0)
            cases hr : isR s k with
            | true =>
              rw [hr] at hIR
              have HRS2 : Hid (allRef (refsL s vs (k + 1)) = decide (0 ≤ refKind (vs.getD k 0))) := by
                show allRef (refsL s vs (k + 1)) = _
                rw [HRS.out, hr, if_pos rfl, allRef_snoc, HOK.out]; rfl
              clear hr HRS
              generalize vs.getD k 0 = y at c1 HRK hrc HRS2
              generalize refKind y = rk at HRK hrc HRS2
              by_cases hneg : rk < 0
              · have HR2 : Hid (res = false) := by
                  show res = false
                  rw [HR.out]; exact HNO.out (by rw [HRS2.out]; simp; omega)
                clear hrc
                go_wp2_with fail
                refine (HRK.out _).mono ?_
                rintro e w2 ⟨rfl, rfl⟩
                go_wp2
                go_ret
                exact ⟨by rw [HR2.out]; rfl, HBW.out⟩
              · have HOK2 : Hid (allRef (refsL s vs (k + 1)) = true) := by
                  show allRef (refsL s vs (k + 1)) = true
                  rw [HRS2.out]; simp; omega
                clear hrc
                go_wp2_with fail
                refine (HRK.out _).mono ?_
                rintro e w2 ⟨rfl, rfl⟩
                go_wp2
                go_roundw
                case rel => exact ⟨k + 1, by omega, by go_num, HOK2.out, trivial⟩
                case measure => simp [intOf]; omega
            | false =>
              rw [hr] at hIR
              have HOK2 : Hid (allRef (refsL s vs (k + 1)) = true) := by
                show allRef (refsL s vs (k + 1)) = true
                rw [HRS.out, hr]; exact HOK.out
              clear hr HRS hrc HRK
              go_wp2
              go_roundw
              case rel => exact ⟨k + 1, by omega, by go_num, HOK2.out, trivial⟩
              case measure => simp [intOf]; omega
          · obtain rfl : k = n := by omega
            have HR2 : Hid (res = true) := by show res = true; rw [HR.out]; exact HOK.out
            go_wp2
            go_ret
            exact ⟨by rw [HR2.out]; rfl, HBW.out⟩
      · have hne : ((vs.length : Int) != (s.size : Int)) = true := by simp; omega
        have HR : Hid (res = false) := by
          show res = false
          rw [HDE2.out, show ((vs.length : Int) == (s.size : Int)) = false by simp; omega]; rfl
        clear hlen HDE2
        go_enter Try.func13, Try.ntmps13
        go_wp2_with fail
        rw [← HW.out]
        go_quiet (first | (go_at_call 32; refine Calls.quiet_of_same (HTY.out _ ⟨_, rfl⟩)) | (go_at_call 34; refine Calls.quiet_of_same (HIN.out _)))
        go_wp2
        go_ret
        exact ⟨by rw [HR.out]; rfl, HBD.out _⟩
end Go.Proofs.Ytnacdfoejmjlgaa.obj
