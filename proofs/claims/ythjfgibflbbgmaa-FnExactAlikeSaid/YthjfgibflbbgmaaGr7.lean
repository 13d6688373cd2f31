/-
  Graphs: whether one is right, by the specification.
-/
import Derived.Test.YthjfgibflbbgmaaGr5
namespace Go.Proofs.Ythjfgibflbbgmaa.gr
open Go.RowKit
open kinds ints obj ref

set_option maxRecDepth 20000 in
theorem allIn_le (n : Nat) (s : ByteArray) (vs : List Int) (k m : Nat) (h : k ≤ m) (hf : allIn n (refsL s vs k) = false) : allIn n (refsL s vs m) = false := by
  induction m with
  | zero => rw [show k = 0 by omega] at hf; exact hf
  | succ m ih =>
    by_cases e : k = m + 1
    · rw [← e]; exact hf
    · rw [refsL]
      split
      · rw [allIn_snoc, ih (by omega)]; rfl
      · exact ih (by omega)
set_option maxHeartbeats 4000000 in
set_option maxRecDepth 20000 in
theorem spec_graphok (w : World) (a : Option Addr) (cap : Nat) (xs : List ByteArray) (b : Option Addr) (vc : Nat) (rs : List Int) (c : Option Addr) (cc : Nat) (ns : List Nd) (hn : xs.length ≤ 1048576) (hz : ∀ i (hi : i < xs.length), xs[i].size ≤ 1048576) (hrl : rs.length ≤ 1048576) (hnl : ns.length ≤ 1048576) (hl : Strs w a xs) (hr : Nums w b rs) (hg : Nodes w c ns) :
    Calls Try.prog 34 #[.slice a xs.length cap, .agg #[.slice b rs.length vc, .slice c ns.length cc]] w fun e w' => e = .returned (.bool (graphB xs rs ns)) ∧ Below w.heap.size w w' := by
  obtain ⟨W, hW⟩ : ∃ W, W = w.alloc (.cells #[.slice b rs.length vc, .slice c ns.length cc] 33) := ⟨_, rfl⟩
  have HW : Hid (W = w.alloc (.cells #[.slice b rs.length vc, .slice c ns.length cc] 33)) := hW
  have hb0 : Below w.heap.size w W := by rw [hW]; exact (Below.refl _ _).alloc (Nat.le_refl _) _
  have HB0 : Hid (Below w.heap.size w W) := hb0
  have hsz : w.heap.size < W.heap.size := by rw [hW]; simp
  have k0 : W.cell? ⟨w.heap.size, 0, none⟩ = some (.slice b rs.length vc) := by rw [hW, World.cell?_alloc_new]; rfl
  have k1 : W.cell? ⟨w.heap.size, 1, none⟩ = some (.slice c ns.length cc) := by rw [hW, World.cell?_alloc_new]; rfl
  have HCS : Hid (∀ w', Below W.heap.size W w' → w'.cell? ⟨w.heap.size, 0, none⟩ = some (.slice b rs.length vc) ∧ w'.cell? ⟨w.heap.size, 1, none⟩ = some (.slice c ns.length cc)) := fun w' h =>
    ⟨by rw [h.cell (p := ⟨w.heap.size, 0, none⟩) hsz]; exact k0, by rw [h.cell (p := ⟨w.heap.size, 1, none⟩) hsz]; exact k1⟩
  have HTY : Hid (∀ w', w' = W → Calls _ _ _ w' _) := fun w' q => spec_types w' a cap xs hn (q ▸ hl.below hb0) hz
  have HRN : Hid (∀ w', Below W.heap.size W w' → Nums w' b rs) := fun w' h => (hr.below hb0).below h
  have HGN : Hid (∀ w', Below W.heap.size W w' → Nodes w' c ns) := fun w' h => (hg.below hb0).below h
  have HSN : Hid (∀ w', Below W.heap.size W w' → Strs w' a xs) := fun w' h => (hl.below hb0).below h
  have HXN : Hid (xs.length ≤ 1048576) := hn
  have HDE : Hid (graphB xs rs ns = (typesOk xs && (decide (rs.length ≤ 40) && (decide (ns.length ≤ 400) && (allIn ns.length rs && nodesB xs ns.length ns))))) := rfl
  generalize graphB xs rs ns = res at HDE ⊢
  have m0 := k0
  have m1 := k1
  have HRL : Hid (rs.length ≤ 1048576 ∧ ns.length ≤ 1048576) := ⟨hrl, hnl⟩
  clear hW hl hr hg hb0 k0 k1 hsz hn hz
  cases ht : typesOk xs with
  | false =>
    rw [ht] at HTY HDE
    have HR : Hid (res = false) := by show res = false; rw [HDE.out]; rfl
    clear ht HDE HRN HGN HSN
    go_enter Try.func34, Try.ntmps34
    go_wp2_with fail
    rw [← HW.out]
    refine (HTY.out W rfl).mono ?_
    rintro e w2 ⟨rfl, rfl⟩
    go_wp2
    go_ret
    exact ⟨by rw [HR.out]; rfl, HB0.out⟩
  | true =>
  rw [ht] at HTY HDE
  by_cases h40 : rs.length ≤ 40
  case neg =>
    have h40i : (40 : Int) < (rs.length : Int) := by omega
    have HR : Hid (res = false) := by show res = false; rw [HDE.out, decide_eq_false h40]; rfl
    clear ht HDE HRN HGN HSN h40
    go_enter Try.func34, Try.ntmps34
    go_wp2_with fail
    rw [← HW.out]
    refine (HTY.out W rfl).mono ?_
    rintro e w2 ⟨rfl, rfl⟩
    go_wp2
    go_ret
    exact ⟨by rw [HR.out]; rfl, HB0.out⟩
  case pos =>
  by_cases h400 : ns.length ≤ 400
  case neg =>
    have h40i : ¬ (40 : Int) < (rs.length : Int) := by omega
    have h400i : (400 : Int) < (ns.length : Int) := by omega
    have HR : Hid (res = false) := by show res = false; rw [HDE.out, decide_eq_true h40, decide_eq_false h400]; rfl
    clear ht HDE HRN HGN HSN h40 h400
    go_enter Try.func34, Try.ntmps34
    go_wp2_with fail
    rw [← HW.out]
    refine (HTY.out W rfl).mono ?_
    rintro e w2 ⟨rfl, rfl⟩
    go_wp2
    go_ret
    exact ⟨by rw [HR.out]; rfl, HB0.out⟩
  case pos =>
  have h40i : ¬ (40 : Int) < (rs.length : Int) := by omega
  have h400i : ¬ (400 : Int) < (ns.length : Int) := by omega
  rw [decide_eq_true h40, decide_eq_true h400] at HDE
  have HD2 : Hid (res = (allIn ns.length rs && nodesB xs ns.length ns)) := by show res = _; rw [HDE.out]; simp
  have HTO : Hid (typesOk xs = true) := ht
  have HPI : Hid (∀ (w : World) (x : Int), Calls Try.prog 63 #[.int .i64 x, .int .i64 0, .int .i64 ((xs.length : Int) - 1)] w fun e w' => e = .returned (.bool (placeB xs.length x)) ∧ w' = w) := fun w x => by
    have h1 := specIn_any w x 0 ((xs.length : Int) - 1)
    have h2 : (decide (0 ≤ x) && decide (x ≤ (xs.length : Int) - 1)) = placeB xs.length x := by
      unfold placeB
      congr 1
      exact decide_eq_decide.2 (by omega)
    rw [h2] at h1
    exact h1.mono fun _ _ q => ⟨q.1, q.2.symm⟩
  have HNI : Hid (∀ (w : World) (x : Int), Calls Try.prog 63 #[.int .i64 x, .int .i64 0, .int .i64 (ns.length : Int)] w fun e w' => e = .returned (.bool (decide (0 ≤ x) && decide (x ≤ (ns.length : Int)))) ∧ w = w') := fun w x => specIn_any w x 0 (ns.length : Int)
  have hw1 : IntKind.i64.wrap ((xs.length : Int) - 1) = (xs.length : Int) - 1 := by rw [IntKind.wrap_i64]; have := HXN.out; omega
  clear ht HDE h40 h400
  go_enter Try.func34, Try.ntmps34
  go_wp2_with fail
  rw [← HW.out]
  refine (HTY.out W rfl).mono ?_
  rintro e w2 ⟨rfl, rfl⟩
  have HWW : Hid (Below W.heap.size W W) := Below.refl _ _
  go_wp2
  go_loopw [6] (fun i wr => wr = W ∧ ∃ k : Nat, k ≤ rs.length ∧ i = .int .i64 (k : Int) ∧ allIn ns.length (rs.take k) = true) (fun i _ => rs.length - (intOf i).toNat)
  case atStart => exact ⟨rfl, 0, Nat.zero_le _, rfl, rfl⟩
  case round =>
    obtain ⟨hwr, k, hk, rfl, hok⟩ := hrel
    have hwr2 := hwr.symm
    subst hwr2
    clear hwr
    have HOK : Hid (allIn ns.length (rs.take k) = true) := hok
    clear hok
    by_cases hlt : k < rs.length
    · have hlti : (k : Int) < (rs.length : Int) := by omega
      obtain ⟨b2, off, rfl, c0⟩ := HRN.out _ HWW.out k hlt
      have HT : Hid (allIn ns.length (rs.take (k + 1)) = (allIn ns.length (rs.take k) && (decide (0 ≤ rs[k]) && decide (rs[k] ≤ (ns.length : Int))))) := by
        show allIn ns.length (rs.take (k + 1)) = _
        rw [List.take_succ_eq_append_getElem hlt, allIn_snoc]
      have HIN : Hid (∀ w, Calls _ _ _ w _) := fun w => HNI.out w rs[k]
      generalize rs[k] = x at c0 HT HIN
      generalize (decide (0 ≤ x) && decide (x ≤ (ns.length : Int))) = ok at HT HIN
      cases ok with
      | false =>
        have HR2 : Hid (res = false) := by
          show res = false
          rw [HD2.out, allIn_no (k := k + 1) (by rw [HT.out]; simp)]; rfl
        go_wp2_with fail
        refine (HIN.out _).mono ?_
        rintro e w2 ⟨rfl, rfl⟩
        go_wp2
        go_ret
        exact ⟨by rw [HR2.out]; rfl, HB0.out⟩
      | true =>
        have HOK2 : Hid (allIn ns.length (rs.take (k + 1)) = true) := by
          show allIn ns.length (rs.take (k + 1)) = true
          rw [HT.out, HOK.out]
          rfl
        go_wp2_with fail
        refine (HIN.out _).mono ?_
        rintro e w2 ⟨rfl, rfl⟩
        go_wp2
        go_roundw
        case rel => exact ⟨trivial, k + 1, by omega, by go_num, HOK2.out⟩
        case measure => simp [intOf]; omega
    · obtain rfl : k = rs.length := by omega
      have HR : Hid (res = nodesB xs ns.length ns) := by
        show res = _
        have := HOK.out
        rw [List.take_length] at this
        rw [HD2.out, this]; simp
      clear HOK HD2
      go_wp2
      go_loopw [7] (fun i wr => ∃ k : Nat, k ≤ ns.length ∧ i = .int .i64 (k : Int) ∧ nodesB xs ns.length (ns.take k) = true ∧ Below W.heap.size W wr) (fun i _ => ns.length - (intOf i).toNat)
      case atStart => exact ⟨0, Nat.zero_le _, rfl, rfl, HWW.out⟩
      case round =>
        obtain ⟨k, hk, rfl, hok, hb⟩ := hrel
        have HB : Hid (Below W.heap.size W wr) := hb
        have HOK : Hid (nodesB xs ns.length (ns.take k) = true) := hok
        clear hb hok m0 m1
        obtain ⟨m0, m1⟩ := HCS.out wr HB.out
        by_cases hlt : k < ns.length
        · have hlti : (k : Int) < (ns.length : Int) := by omega
          obtain ⟨b2, off, rfl, c0, ai, ci, c1, hnu⟩ := HGN.out wr HB.out k hlt
          have HT : Hid (nodesB xs ns.length (ns.take (k + 1)) = (nodesB xs ns.length (ns.take k) && nodeB xs ns.length ns[k])) := by
            show nodesB xs ns.length (ns.take (k + 1)) = _
            rw [List.take_succ_eq_append_getElem hlt, nodesB_snoc]
          generalize ns[k] = nd at c0 c1 hnu HT
          obtain ⟨x, vs⟩ := nd
          have d0 : wr.cell? ⟨b2, off + k * 2, none⟩ = some (.int .i64 x) := c0
          have d1 : wr.cell? ⟨b2, off + k * 2 + 1, none⟩ = some (.slice ai vs.length ci) := c1
          have hnu' : Nums wr ai vs := hnu
          obtain ⟨Y, hY⟩ : ∃ Y, Y = wr.alloc (.cells #[.int .i64 x, .slice ai vs.length ci] 53) := ⟨_, rfl⟩
          obtain ⟨yb, hyb⟩ : ∃ y, y = wr.heap.size := ⟨_, rfl⟩
          have HY : Hid (Y = wr.alloc (.cells #[.int .i64 x, .slice ai vs.length ci] 53)) := hY
          have HYB : Hid (yb = wr.heap.size) := hyb
          have hbY : Below wr.heap.size wr Y := by rw [hY]; exact (Below.refl _ _).alloc (Nat.le_refl _) _
          have HBY : Hid (Below W.heap.size W Y) := HB.out.trans (hbY.mono HB.out.size)
          have hys : yb < Y.heap.size := by rw [hyb, hY]; simp
          have j0 : Y.cell? ⟨yb, 0, none⟩ = some (.int .i64 x) := by rw [hY, hyb, World.cell?_alloc_new]; rfl
          have j1 : Y.cell? ⟨yb, 1, none⟩ = some (.slice ai vs.length ci) := by rw [hY, hyb, World.cell?_alloc_new]; rfl
          have HCK : Hid (∀ w', Below Y.heap.size Y w' → w'.cell? ⟨yb, 0, none⟩ = some (.int .i64 x) ∧ w'.cell? ⟨yb, 1, none⟩ = some (.slice ai vs.length ci)) := fun w' h =>
            ⟨by rw [h.cell (p := ⟨yb, 0, none⟩) hys]; exact j0, by rw [h.cell (p := ⟨yb, 1, none⟩) hys]; exact j1⟩
          have HNV : Hid (∀ w', Below Y.heap.size Y w' → Nums w' ai vs ∧ Strs w' a xs) := fun w' h => ⟨(hnu'.below hbY).below h, HSN.out w' (HBY.out.trans (h.mono HBY.out.size))⟩
          have HWY : Hid (Below w.heap.size w Y) := HB0.out.trans (HBY.out.mono HB0.out.size)
          have HDN : Hid (∀ n, Below Y.heap.size Y (Y.drewN n)) := fun n => by
            have hq := Below.refl Y.heap.size Y
            exact ⟨hq.os, hq.tape, hq.output, hq.size, hq.block⟩
          have HPX : Hid (∀ w, Calls _ _ _ w _) := fun w => HPI.out w x
          clear c0 c1 hnu hY hyb hbY hys hnu'
          cases hp : placeB xs.length x with
          | false =>
            have HR2 : Hid (res = false) := by
              show res = false
              rw [HR.out]; exact nodesB_no (k := k + 1) (by rw [HT.out]; unfold nodeB fitsB; rw [hp]; simp)
            rw [hp] at HPX
            clear hp HT
            go_wp2_with (first | (rw [← HY.out, ← HYB.out]) | (rw [← HY.out]))
            try rw [← HYB.out]
            go_quiet (first | (go_at_call 63; refine Calls.quiet_of_same (HPX.out _)))
            go_wp2
            go_ret
            exact ⟨by rw [HR2.out]; rfl, HWY.out.trans ((HDN.out _).mono HWY.out.size)⟩
          | true =>
            rw [hp] at HPX
            obtain ⟨p, rfl, hpl⟩ := placeB_nat hp
            obtain ⟨bb, o2, rfl, s0⟩ := (HNV.out Y (Below.refl _ _)).2 p hpl
            have hpi : (p : Int) < (xs.length : Int) := by omega
            have hp0 : (0 : Int) ≤ (p : Int) := by omega
            have HFI : Hid (fitsB xs (p : Int) vs = ((vs.length : Int) == (xs[p].size : Int)) ∧ kd xs (p : Int) = xs[p]) := by
              refine ⟨?_, kd_at p hpl⟩
              unfold fitsB; rw [hp, kd_at p hpl]; rfl
            have HSX : Hid (∀ w', Below Y.heap.size Y w' → w'.cell? ⟨bb, o2 + p, none⟩ = some (.string xs[p])) := fun w' h => by
              rw [h.cell (p := ⟨bb, o2 + p, none⟩) (World.block_lt_of_cell? Y _ s0)]; exact s0
            have H23 : Hid (xs[p].size ≤ 23) := by
              have := HTO.out
              unfold typesOk at this
              rw [Bool.and_eq_true, List.all_eq_true] at this
              exact (isType_size (this.2 _ (List.getElem_mem hpl))).2
            generalize xs[p] = s at s0 HFI HSX H23
            by_cases hsl : vs.length = s.size
            case neg =>
              have hnq : ((vs.length : Int) != (s.size : Int)) = true := by simp; omega
              have HR2 : Hid (res = false) := by
                show res = false
                rw [HR.out]; exact nodesB_no (k := k + 1) (by
                  rw [HT.out]; unfold nodeB; rw [HFI.out.1]
                  have : ((vs.length : Int) == (s.size : Int)) = false := by simp; omega
                  rw [this]; simp)
              clear hp HT
              go_wp2_with (first | (rw [← HY.out, ← HYB.out]) | (rw [← HY.out]))
              try rw [← HYB.out]
              go_quiet (first | (go_at_call 63; refine Calls.quiet_of_same (HPX.out _)))
              go_wp2
              go_ret
              exact ⟨by rw [HR2.out]; rfl, HWY.out.trans ((HDN.out _).mono HWY.out.size)⟩
            case pos =>
            have hnq : ((vs.length : Int) != (s.size : Int)) = false := by simp; omega
            have HT2 : Hid (nodesB xs ns.length (ns.take (k + 1)) = allIn ns.length (refsL s vs vs.length)) := by
              show nodesB xs ns.length (ns.take (k + 1)) = _
              have h9 : ((vs.length : Int) == (s.size : Int)) = true := by simp; omega
              rw [HT.out, HOK.out]; unfold nodeB; rw [HFI.out.1, HFI.out.2, h9]; simp
            have HSL : Hid (vs.length = s.size) := hsl
            clear hp HT HFI hsl
            go_wp2_with (first | (rw [← HY.out, ← HYB.out]) | (rw [← HY.out]))
            try rw [← HYB.out]
            go_quiet (first | (go_at_call 63; refine Calls.quiet_of_same (HPX.out _)))
            have HEN : Hid (∀ w', Below Y.heap.size Y w' → Below w.heap.size w w' ∧ Below W.heap.size W w') := fun w' h => ⟨HWY.out.trans (h.mono HWY.out.size), HBY.out.trans (h.mono HBY.out.size)⟩
            have HKN : Hid (k < ns.length) := hlt
            clear s0 d0 d1 m0 m1 j0 j1 hnq
            go_wp2
            go_loopw [9] (fun i w2 => ∃ j : Nat, j ≤ vs.length ∧ i = .int .i64 (j : Int) ∧ allIn ns.length (refsL s vs j) = true ∧ Below Y.heap.size Y w2) (fun i _ => vs.length - (intOf i).toNat)
            case atStart => exact ⟨0, Nat.zero_le _, rfl, rfl, HDN.out _⟩
            case round =>
              obtain ⟨j, hj, rfl, hin, hb⟩ := hrel
              have HBJ : Hid (Below Y.heap.size Y wr) := hb
              have HIJ : Hid (allIn ns.length (refsL s vs j) = true) := hin
              obtain ⟨q0, q1⟩ := HCK.out wr hb
              have s1 := HSX.out wr hb
              obtain ⟨m0, m1⟩ := HCS.out wr (HEN.out wr hb).2
              clear hin hb
              by_cases hlt2 : j < vs.length
              · have HJ : Hid (j < vs.length) := hlt2
                have hjs : j < s.size := by have := HSL.out; omega
                have hjsi : (j : Int) < (s.size : Int) := by omega
                have hjvi : (j : Int) < (vs.length : Int) := by omega
                have hj23 : j < 23 := by have := H23.out; omega
                have hj0 : (0 : Int) ≤ (j : Int) := by omega
                obtain ⟨b5, o5, rfl, c5⟩ := (HNV.out wr HBJ.out).1 j hlt2
                rw [show vs[j] = vs.getD j 0 by rw [List.getD_eq_getElem?_getD, List.getElem?_eq_getElem hlt2]; rfl] at c5
                have hIR := isR_at s j hjs
                have HRS : Hid (refsL s vs (j + 1) = if isR s j = true then refsL s vs j ++ [vs.getD j 0] else refsL s vs j) := rfl
                have HIN : Hid (∀ w, Calls _ _ _ w _) := fun w => HNI.out w (vs.getD j 0)
                generalize vs.getD j 0 = y at c5 HRS HIN
                cases hr : isR s j with
                | false =>
                  rw [hr] at hIR
                  have HI2 : Hid (allIn ns.length (refsL s vs (j + 1)) = true) := by
                    show allIn ns.length (refsL s vs (j + 1)) = true
                    rw [HRS.out, hr, if_neg (by decide)]; exact HIJ.out
                  clear hr HRS
                  go_wp2
                  go_roundw
                  case rel => exact ⟨j + 1, by have := HJ.out; omega, by go_num, HI2.out, HBJ.out⟩
                  case measure => have := HJ.out; simp [intOf]; omega
                | true =>
                  rw [hr] at hIR
                  have HI2 : Hid (allIn ns.length (refsL s vs (j + 1)) = (decide (0 ≤ y) && decide (y ≤ (ns.length : Int)))) := by
                    show allIn ns.length (refsL s vs (j + 1)) = _
                    rw [HRS.out, hr, if_pos rfl, allIn_snoc, HIJ.out]; simp
                  generalize (decide (0 ≤ y) && decide (y ≤ (ns.length : Int))) = ok at HI2 HIN
                  clear hr HRS
                  cases ok with
                  | false =>
                    have HR2 : Hid (res = false) := by
                      show res = false
                      rw [HR.out]; exact nodesB_no (k := k + 1) (by rw [HT2.out]; exact allIn_le _ _ _ (j + 1) _ (by omega) HI2.out)
                    go_wp2_with fail
                    refine (HIN.out _).mono ?_
                    rintro e w2 ⟨rfl, rfl⟩
                    go_wp2
                    go_ret
                    exact ⟨by rw [HR2.out]; rfl, (HEN.out _ HBJ.out).1⟩
                  | true =>
                    go_wp2_with fail
                    refine (HIN.out _).mono ?_
                    rintro e w2 ⟨rfl, rfl⟩
                    go_wp2
                    go_roundw
                    case rel => exact ⟨j + 1, by have := HJ.out; omega, by go_num, HI2.out, HBJ.out⟩
                    case measure => have := HJ.out; simp [intOf]; omega
              · obtain rfl : j = vs.length := by omega
                go_wp2
                go_roundw
                case rel => exact ⟨k + 1, by have := HKN.out; omega, by go_num, by rw [HT2.out]; exact HIJ.out, (HEN.out _ HBJ.out).2⟩
                case measure => have := HKN.out; simp [intOf]; omega
        · obtain rfl : k = ns.length := by omega
          have HR2 : Hid (res = true) := by
            show res = true
            have := HOK.out
            rw [List.take_length] at this
            rw [HR.out, this]
          have HBE : Hid (Below w.heap.size w wr) := HB0.out.trans (HB.out.mono HB0.out.size)
          go_wp2
          go_ret
          exact ⟨by rw [HR2.out]; rfl, HBE.out⟩
end Go.Proofs.Ythjfgibflbbgmaa.gr
