/-
  OldObject, by the specification.
-/
import Derived.Test.YthmohmfkgoipkaaOld1
import Derived.Test.YthmohmfkgoipkaaObjVar
namespace Go.Proofs.Ythmohmfkgoipkaa.img
open Go.RowKit
open kinds ints wmath num obj ref later

theorem lineB_obj (n1 n2 : Int) (xs : List ByteArray) (s : ByteArray) (L : Nat) : lineB n1 n2 xs s L = (objLB xs s L && allOldL n1 n2 (refsE xs s L (runL xs s L))) := by
  unfold lineB objLB oldAt
  rw [Bool.and_assoc]
theorem oo_open {t : Int} {vs : List Int} {b : Bool} {w : World} {e : Ending} {w' : World} (h : OoAns t vs b w e w') : ∃ a g cap, e = .returned (.tuple #[.agg #[.int .i64 t, .slice a vs.length cap], .bool b]) ∧ w.heap.size ≤ g ∧ Ints w' a g vs ∧ w'.ownsRow w.heap.size 2 1 (.slice a vs.length cap) vs.length (vs.map (Value.int .i64)) ∧ Below w.heap.size w w' := by
  obtain ⟨v, rfl, hown, hb⟩ := h
  have h2 := hown
  obtain ⟨a, g, cap, rfl, hg, hin⟩ := ints_of_row hown
  exact ⟨a, g, cap, rfl, hg, hin, h2, hb⟩
set_option maxHeartbeats 2000000 in
set_option maxRecDepth 20000 in
theorem l10Old_any (w : World) (n1 n2 n3 : Int) (a : Option Addr) (cap : Nat) (xs : List ByteArray) (s : ByteArray) (L : Nat) (h1 : 8 ≤ n1) (h2 : n1 ≤ 128) (h3 : 1 ≤ n2) (h4 : n2 ≤ 32) (hs : s.size ≤ 8192) (hn : xs.length ≤ 1048576) (hl : Strs w a xs) (hz : ∀ i (hi : i < xs.length), xs[i].size ≤ 1048576) (hL : 64 * L + 64 ≤ s.size) :
    Calls Try.prog 30 #[.agg #[.int .i64 n1, .int .i64 n2, .int .i64 n3, .slice a xs.length cap], .string s, .int .i64 (L : Int)] w fun e w' => OoAns (if lineB n1 n2 xs s L = true then roT xs (subL s L (runL xs s L)) else 0) (if lineB n1 n2 xs s L = true then roV xs (subL s L (runL xs s L)) else []) (lineB n1 n2 xs s L) w e w' ∧ Below w.heap.size w w' := by
  obtain ⟨V, hV⟩ : ∃ V, V = w.alloc (.cells #[.int .i64 n1, .int .i64 n2, .int .i64 n3, .slice a xs.length cap] 29) := ⟨_, rfl⟩
  have hv0 : Below w.heap.size w V := by rw [hV]; exact (Below.refl _ _).alloc (Nat.le_refl _) _
  have hbv : Box4 w.heap.size n1 n2 n3 (.slice a xs.length cap) V := by rw [hV]; exact Box4.start _ _ _ _ _ _
  obtain ⟨W, hW⟩ : ∃ W, W = V.alloc (.cells #[.int .i64 0, .slice none 0 0] 37) := ⟨_, rfl⟩
  have hp0 : Pair V W := by rw [hW]; exact Pair.start V _
  have hvw : Below V.heap.size V W := by rw [hW]; exact (Below.refl _ _).alloc (Nat.le_refl _) _
  have hbx := hbv.below hvw
  have HV : Hid (V = w.alloc (.cells #[.int .i64 n1, .int .i64 n2, .int .i64 n3, .slice a xs.length cap] 29)) := hV
  have HW : Hid (W = V.alloc (.cells #[.int .i64 0, .slice none 0 0] 37)) := hW
  have HVS : Hid (V.heap.size = w.heap.size + 1) := by show V.heap.size = _; rw [hV]; simp
  have HPR : Hid (Pair V W) := hp0
  have HWL : Hid (w.heap.size + 1 < W.heap.size) := by have h1 := hp0.lt; rw [HVS.out] at h1; exact h1
  have HVB : Hid (Below w.heap.size w V) := hv0
  have HK : Hid (∀ w', Below W.heap.size W w' → Box4 w.heap.size n1 n2 n3 (.slice a xs.length cap) w') := fun w' h => hbx.below h
  have hlW : Strs W a xs := (hl.below hv0).below hvw
  have HLW : Hid (∀ w', Below W.heap.size W w' → Strs w' a xs) := fun w' h => hlW.below h
  have HOB : Hid (Calls _ _ _ W _) := l10Obj_any W n1 n2 n3 a cap xs s L hs hn hlW hz hL
  have HRF : Hid (∀ (w : World) (r : Int), Calls _ _ _ w _) := fun w r => l10Ref_any w n1 n2 n3 r a xs.length cap h1 h2 h3 h4
  have HLE : Hid (lineB n1 n2 xs s L = (objLB xs s L && allOldL n1 n2 (refsE xs s L (runL xs s L)))) := lineB_obj n1 n2 xs s L
  have HKN : Hid (objLB xs s L = true → ∃ p : Nat, ∃ hp : p < xs.length, roT xs (subL s L (runL xs s L)) = (p : Int) ∧ (roV xs (subL s L (runL xs s L))).length = (xs[p]).size ∧ (roV xs (subL s L (runL xs s L))).length ≤ 23 ∧ kd xs (roT xs (subL s L (runL xs s L))) = xs[p]) := fun h => by
    unfold objLB at h
    rw [Bool.and_eq_true] at h
    obtain ⟨p, hp, e1, e2, e3, e4, _⟩ := ro_known h.2
    exact ⟨p, hp, e1, e2, e3, e4⟩
  have HRE : Hid (refsE xs s L (runL xs s L) = refsL (kd xs (roT xs (subL s L (runL xs s L)))) (roV xs (subL s L (runL xs s L))) (roV xs (subL s L (runL xs s L))).length) := rfl
  have HPT : Hid (∀ wX x0 x1, Below W.heap.size W wX → Below w.heap.size w ((wX.setCell ⟨w.heap.size + 1, 0, none⟩ x0).setCell ⟨w.heap.size + 1, 1, none⟩ x1) ∧ ((wX.setCell ⟨w.heap.size + 1, 0, none⟩ x0).setCell ⟨w.heap.size + 1, 1, none⟩ x1).cell? ⟨w.heap.size + 1, 0, none⟩ = some x0 ∧ ((wX.setCell ⟨w.heap.size + 1, 0, none⟩ x0).setCell ⟨w.heap.size + 1, 1, none⟩ x1).cell? ⟨w.heap.size + 1, 1, none⟩ = some x1) := fun wX x0 x1 h => by
    have h1 := (hp0.later h).put x0 x1
    have e0 := (hp0.later h).cell 0 _ rfl
    have e1 := (hp0.later h).cell 1 _ rfl
    have h2 := pair_set e0 e1 x0 x1
    rw [HVS.out] at h1 h2
    exact ⟨hv0.trans (h1.mono (by omega)), h2.1, h2.2⟩
  have HFR : Hid (∀ wX, Below W.heap.size W wX → (∃ v, wX.cell? ⟨w.heap.size + 1, 0, none⟩ = some v) ∧ (∃ v, wX.cell? ⟨w.heap.size + 1, 1, none⟩ = some v) ∧ wX.frozen? ⟨w.heap.size + 1, 0, none⟩ = false ∧ wX.frozen? ⟨w.heap.size + 1, 1, none⟩ = false) := fun wX h => by
    have e0 := (hp0.later h).cell 0 _ rfl
    have e1 := (hp0.later h).cell 1 _ rfl
    have f0 := (hp0.later h).free 0
    have f1 := (hp0.later h).free 1
    rw [HVS.out] at e0 e1 f0 f1
    exact ⟨⟨_, e0⟩, ⟨_, e1⟩, f0, f1⟩
  generalize hrt : (if lineB n1 n2 xs s L = true then roT xs (subL s L (runL xs s L)) else 0) = rt
  generalize hrv : (if lineB n1 n2 xs s L = true then roV xs (subL s L (runL xs s L)) else []) = rv
  generalize hob : lineB n1 n2 xs s L = ob at HLE ⊢
  rw [hob] at hrt hrv
  have HRT : Hid (rt = if ob = true then roT xs (subL s L (runL xs s L)) else 0) := hrt.symm
  have HRV : Hid (rv = if ob = true then roV xs (subL s L (runL xs s L)) else []) := hrv.symm
  clear hV hv0 hbv hW hp0 hvw hbx hl hrt hrv hob hlW h1 h2 h3 h4
  cases hoo : objLB xs s L with
  | false =>
    rw [hoo] at HOB HLE
    have HOF : Hid (ob = false) := by show ob = false; rw [HLE.out, Bool.false_and]
    have HRT0 : Hid (rt = 0) := by show rt = 0; rw [HRT.out, HOF.out]; exact if_neg (by decide)
    have HRV0 : Hid (rv = []) := by show rv = []; rw [HRV.out, HOF.out]; exact if_neg (by decide)
    have HC : Hid (Calls Try.prog 45 #[.agg #[.int .i64 n1, .int .i64 n2, .int .i64 n3, .slice a xs.length cap], .string s, .int .i64 (L : Int)] W fun e w' => OoAns 0 [] false W e w' ∧ Below W.heap.size W w') := HOB.out.mono fun e w' h => by
      rw [if_neg (by decide), if_neg (by decide)] at h
      exact h
    clear hoo HOB HLE HRT HRV HKN HRE HRF HLW
    go_enter Try.func30, Try.ntmps30
    go_wp2_with fail
    rw [← HV.out, ← HW.out]
    refine HC.out.mono ?_
    rintro e w1 ⟨hoo, hb1⟩
    obtain ⟨aR, gR, cR, rfl, _, _, _, _⟩ := oo_open hoo
    rw [show ([] : List Int).length = 0 from rfl]
    obtain ⟨Y, hY⟩ : ∃ Y, Y = w1.alloc (.cells #[.int .i64 0, .slice aR 0 cR] 37) := ⟨_, rfl⟩
    have HY : Hid (Y = w1.alloc (.cells #[.int .i64 0, .slice aR 0 cR] 37)) := hY
    have HBY : Hid (Below W.heap.size W Y) := by rw [hY]; exact hb1.alloc hb1.size _
    clear hY hb1 hoo
    obtain ⟨⟨v0, e0⟩, ⟨v1, e1⟩, f0, f1⟩ := HFR.out Y HBY.out
    obtain ⟨hbE, q0, q1⟩ := HPT.out Y (.int .i64 0) (.slice none 0 0) HBY.out
    have HBE : Hid (Below w.heap.size w ((Y.setCell ⟨w.heap.size + 1, 0, none⟩ (.int .i64 0)).setCell ⟨w.heap.size + 1, 1, none⟩ (.slice none 0 0))) := hbE
    have HQ : Hid (_ ∧ _) := And.intro q0 q1
    clear hbE q0 q1
    go_wp2_with (rw [← HY.out])
    refine bodyPost_ret (v := .tuple #[.agg #[.int .i64 0, .slice none 0 0], .bool false]) ?_ rfl ⟨by rw [HRT0.out, HRV0.out, HOF.out]; exact oo_no rfl HBE.out, HBE.out⟩
    obtain ⟨q0, q1⟩ := HQ.out
    simp [results, Try.results30, go_sem, q0, q1]
  | true =>
    rw [hoo, Bool.true_and] at HLE
    obtain ⟨p, hp, ep, el, e23, ek⟩ := HKN.out hoo
    rw [ep] at HRE
    have ek2 : kd xs (p : Int) = xs[p] := by rw [← ep]; exact ek
    rw [ek2] at HRE
    rw [HRE.out] at HLE
    have HC : Hid (Calls Try.prog 45 #[.agg #[.int .i64 n1, .int .i64 n2, .int .i64 n3, .slice a xs.length cap], .string s, .int .i64 (L : Int)] W fun e w' => OoAns (p : Int) (roV xs (subL s L (runL xs s L))) true W e w' ∧ Below W.heap.size W w') := HOB.out.mono fun e w' h => by
      rw [if_pos hoo, if_pos hoo, hoo, ep] at h
      exact h
    rw [ep] at HRT
    generalize roV xs (subL s L (runL xs s L)) = us at HLE HC HRV el e23
    clear hoo HOB HKN HRE ep ek ek2
    obtain ⟨b3, o3, hae, _⟩ := HLW.out W (Below.refl _ _) p hp
    subst hae
    have HSP : Hid (∀ w', Below W.heap.size W w' → w'.cell? ⟨b3, o3 + p, none⟩ = some (.string xs[p])) := fun w' h => by
      obtain ⟨b4, o4, e4, d4⟩ := HLW.out w' h p hp
      injection e4 with e4
      injection e4 with e5 e6 _
      subst e5
      subst e6
      exact d4
    generalize xs[p] = sp at HSP HLE el
    obtain ⟨n, hnn⟩ : ∃ n, n = us.length := ⟨_, rfl⟩
    have HNL : Hid (us.length = n) := hnn.symm
    have HSS : Hid (sp.size = n) := by show sp.size = n; rw [hnn, el]
    have hn23 : n ≤ 23 := by omega
    have hpi : (p : Int) < (xs.length : Int) := by omega
    have hp0 : (0 : Int) ≤ (p : Int) := by omega
    clear hnn el e23
    go_enter Try.func30, Try.ntmps30
    go_wp2_with fail
    rw [← HV.out, ← HW.out]
    refine HC.out.mono ?_
    rintro e w1 ⟨hoo, hb1⟩
    obtain ⟨aR, gR, cR, rfl, hgR, hin, hown, _⟩ := oo_open hoo
    rw [HNL.out]
    obtain ⟨Y, hY⟩ : ∃ Y, Y = w1.alloc (.cells #[.int .i64 (p : Int), .slice aR n cR] 37) := ⟨_, rfl⟩
    have HY : Hid (Y = w1.alloc (.cells #[.int .i64 (p : Int), .slice aR n cR] 37)) := hY
    have hby : Below w1.heap.size w1 Y := by rw [hY]; exact (Below.refl _ _).alloc (Nat.le_refl _) _
    have HBY : Hid (Below W.heap.size W Y) := hb1.trans (hby.mono hb1.size)
    have HOY : Hid (OVar w1.heap.size (p : Int) aR gR n cR us Y) := by rw [hY]; exact OVar.start w1 (p : Int) aR gR n cR us _ HNL.out hin
    have HOWN : Hid (Y.ownsRow W.heap.size 2 1 (.slice aR us.length cR) us.length (us.map (Value.int .i64))) := own_below hown hby
    obtain ⟨yb, hyb⟩ : ∃ y, y = w1.heap.size := ⟨_, rfl⟩
    have HYB : Hid (yb = w1.heap.size) := hyb
    rw [← hyb] at HOY
    clear hY hby hb1 hoo hgR hin hown hyb
    go_wp2
    rw [← HY.out, ← HYB.out]
    go_loopw [10] (fun i wr => ∃ k : Nat, k ≤ n ∧ i = .int .i64 (k : Int) ∧ allOldL n1 n2 (refsL sp us k) = true ∧ Below Y.heap.size Y wr) (fun i _ => n - (intOf i).toNat)
    case atStart => exact ⟨0, Nat.zero_le _, rfl, rfl, Below.refl _ _⟩
    case round =>
      obtain ⟨k, hk, rfl, hok, hb⟩ := hrel
      have HB : Hid (Below Y.heap.size Y wr) := hb
      have HOK : Hid (allOldL n1 n2 (refsL sp us k) = true) := hok
      have HBW : Hid (Below W.heap.size W wr) := HBY.out.trans (hb.mono HBY.out.size)
      clear hb hok
      have hov := HOY.out.below HB.out
      have y0 := hov.c0
      have y1 := hov.c1
      by_cases hlt : k < n
      · have hlti : (k : Int) < (n : Int) := by omega
        have hk0 : (0 : Int) ≤ (k : Int) := by omega
        have hks : k < sp.size := by have := HSS.out; omega
        have hksi : (k : Int) < (sp.size : Int) := by omega
        have hIR := isR_at sp k hks
        have HRS : Hid (refsL sp us (k + 1) = if isR sp k = true then refsL sp us k ++ [us.getD k 0] else refsL sp us k) := rfl
        have HNO : Hid (allOldL n1 n2 (refsL sp us (k + 1)) = false → allOldL n1 n2 (refsL sp us us.length) = false) := allOldL_le n1 n2 sp us (k + 1) us.length (by have := HNL.out; omega)
        obtain ⟨rfl, c1, _⟩ := hov.tx k (by have := HNL.out; omega)
        rw [show us[k]'(by have := HNL.out; omega) = us.getD k 0 by rw [List.getD_eq_getElem?_getD, List.getElem?_eq_getElem (by have := HNL.out; omega)]; rfl] at c1
        have d0 := HSP.out wr HBW.out
        obtain ⟨m0, m1, m2, m3⟩ := HK.out wr HBW.out
        have M0 := fun n : Later wr => Later.cell m0 n
        have M1 := fun n : Later wr => Later.cell m1 n
        have M2 := fun n : Later wr => Later.cell m2 n
        have M3 := fun n : Later wr => Later.cell m3 n
        have Y0 := fun n : Later wr => Later.cell y0 n
        have Y1 := fun n : Later wr => Later.cell y1 n
        have C1 := fun n : Later wr => Later.cell c1 n
        have D0 := fun n : Later wr => Later.cell d0 n
        have hne := some_later wr
        have HBd : Hid (∀ nn : Later wr, Below Y.heap.size Y nn.world) := fun nn => HB.out.trans (nn.below.mono HB.out.size)
        cases hr : isR sp k with
        | true =>
          rw [hr] at hIR
          have HRS2 : Hid (allOldL n1 n2 (refsL sp us (k + 1)) = oldB n1 n2 (us.getD k 0)) := by
            show allOldL n1 n2 (refsL sp us (k + 1)) = _
            rw [HRS.out, hr, if_pos rfl, allOldL_snoc, HOK.out, Bool.true_and]
          clear hr HRS hov m0 m1 m2 m3 y0 d0
          generalize us.getD k 0 = y at c1 C1 HRS2
          have HCV : Hid (∀ (n : Later wr), _) := fun n => HRF.out n.world y
          cases hod : oldB n1 n2 y with
          | false =>
            rw [hod] at HCV HRS2
            have HOF : Hid (ob = false) := by show ob = false; rw [HLE.out, HNO.out HRS2.out]
            have HRT0 : Hid (rt = 0) := by show rt = 0; rw [HRT.out, HOF.out]; exact if_neg (by decide)
            have HRV0 : Hid (rv = []) := by show rv = []; rw [HRV.out, HOF.out]; exact if_neg (by decide)
            clear hod c1
            go_wp2
            refine region_later (by kernel_rfl) (by kernel_rfl) ?_
            repeat (go_big_quiet_step (first | (go_at_call 33; exact later_of (HCV.out _))))
            refine wpQuiet_nil ?_
            intro w' hw'
            obtain ⟨nn, rfl⟩ := hw'
            have HB4 : Hid (Below W.heap.size W nn.world) := HBY.out.trans ((HBd.out nn).mono HBY.out.size)
            generalize nn.world = w4 at HB4 ⊢
            clear M0 M1 M2 M3 Y0 Y1 C1 D0 y1 HBd
            obtain ⟨⟨v0, e0⟩, ⟨v1, e1⟩, f0, f1⟩ := HFR.out w4 HB4.out
            obtain ⟨hbE, q0, q1⟩ := HPT.out w4 (.int .i64 0) (.slice none 0 0) HB4.out
            have HBE : Hid (Below w.heap.size w ((w4.setCell ⟨w.heap.size + 1, 0, none⟩ (.int .i64 0)).setCell ⟨w.heap.size + 1, 1, none⟩ (.slice none 0 0))) := hbE
            have HQ : Hid (_ ∧ _) := And.intro q0 q1
            clear hbE q0 q1
            go_wp2
            refine bodyPost_ret (v := .tuple #[.agg #[.int .i64 0, .slice none 0 0], .bool false]) ?_ rfl ⟨by rw [HRT0.out, HRV0.out, HOF.out]; exact oo_no rfl HBE.out, HBE.out⟩
            obtain ⟨q0, q1⟩ := HQ.out
            simp [results, Try.results30, go_sem, q0, q1]
          | true =>
            rw [hod] at HCV HRS2
            clear hod c1
            go_wp2
            refine region_later (by kernel_rfl) (by kernel_rfl) ?_
            repeat (go_big_quiet_step (first | (go_at_call 33; exact later_of (HCV.out _))))
            refine wpQuiet_nil ?_
            intro w' hw'
            obtain ⟨nn, rfl⟩ := hw'
            have HB4 : Hid (Below Y.heap.size Y nn.world) := HBd.out nn
            generalize nn.world = w4 at HB4 ⊢
            clear M0 M1 M2 M3 Y0 Y1 C1 D0 y1 HBd
            go_wp2
            go_roundw
            case rel => exact ⟨k + 1, by omega, by go_num, HRS2.out, HB4.out⟩
            case measure => simp [intOf]; omega
        | false =>
          rw [hr] at hIR
          have HOK2 : Hid (allOldL n1 n2 (refsL sp us (k + 1)) = true) := by
            show allOldL n1 n2 (refsL sp us (k + 1)) = true
            rw [HRS.out, hr, if_neg (by decide)]; exact HOK.out
          clear hr HRS hov m0 m1 m2 m3 y0 d0 c1
          go_wp2
          refine region_later (by kernel_rfl) (by kernel_rfl) ?_
          repeat (go_big_quiet_step (fail))
          refine wpQuiet_nil ?_
          intro w' hw'
          obtain ⟨nn, rfl⟩ := hw'
          have HB4 : Hid (Below Y.heap.size Y nn.world) := HBd.out nn
          generalize nn.world = w4 at HB4 ⊢
          clear M0 M1 M2 M3 Y0 Y1 C1 D0 y1 HBd
          go_wp2
          go_roundw
          case rel => exact ⟨k + 1, by omega, by go_num, HOK2.out, HB4.out⟩
          case measure => simp [intOf]; omega
      · obtain rfl : k = n := by omega
        have HOF : Hid (ob = true) := by show ob = true; rw [HLE.out, HNL.out, HOK.out]
        have HRT1 : Hid (rt = (p : Int)) := by show rt = _; rw [HRT.out, HOF.out]; exact if_pos rfl
        have HRV1 : Hid (rv = us) := by show rv = us; rw [HRV.out, HOF.out]; exact if_pos rfl
        have HOW : Hid (wr.ownsRow W.heap.size 2 1 (.slice aR us.length cR) us.length (us.map (Value.int .i64))) := own_below HOWN.out HB.out
        obtain ⟨⟨v0, e0⟩, ⟨v1, e1⟩, f0, f1⟩ := HFR.out wr HBW.out
        obtain ⟨hbE, q0, q1⟩ := HPT.out wr (.int .i64 (p : Int)) (.slice aR k cR) HBW.out
        have HBE : Hid (Below w.heap.size w ((wr.setCell ⟨w.heap.size + 1, 0, none⟩ (.int .i64 (p : Int))).setCell ⟨w.heap.size + 1, 1, none⟩ (.slice aR k cR))) := hbE
        have HQ : Hid (_ ∧ _) := And.intro q0 q1
        clear hbE q0 q1 hov
        go_wp2
        refine bodyPost_ret (v := .tuple #[.agg #[.int .i64 (p : Int), .slice aR k cR], .bool true]) ?_ rfl ⟨?_, HBE.out⟩
        · obtain ⟨q0, q1⟩ := HQ.out
          simp [results, Try.results30, go_sem, q0, q1]
        · rw [HRT1.out, HRV1.out, HOF.out]
          refine ⟨.slice aR k cR, rfl, ?_, HBE.out⟩
          have h6 := own_mono (row_aside (x := .slice aR k cR) (i := 1) (row_aside (x := .int .i64 (p : Int)) (i := 0) HOW.out HWL.out) HWL.out) (show w.heap.size ≤ W.heap.size by have := HWL.out; omega)
          rw [HNL.out] at h6 ⊢
          exact h6
end Go.Proofs.Ythmohmfkgoipkaa.img
