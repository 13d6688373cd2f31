/-
  An object read from bytes, by the specification; nothing that was there is written.
-/
import Derived.Test.YtnacdfoejmjlgaaRoPre
namespace Go.Proofs.Ytnacdfoejmjlgaa.obj
open Go.RowKit
open kinds ints ref wb wmath num

set_option maxHeartbeats 1500000 in
set_option maxRecDepth 20000 in
theorem spec_readobj (w : World) (a : Option Addr) (cap : Nat) (xs : List ByteArray) (s : ByteArray) (hn : xs.length ≤ 1048576) (hz : ∀ i (hi : i < xs.length), xs[i].size ≤ 1048576) (hl : Strs w a xs) (hs : s.size ≤ 1048576) :
    Calls Try.prog 10 #[.slice a xs.length cap, .string s] w fun e w' => RoAns xs s w e w' := by
  obtain ⟨W, hW⟩ : ∃ W, W = w.alloc (.cells #[.int .i64 0, .slice none 0 0] 27) := ⟨_, rfl⟩
  have HW : Hid (W = w.alloc (.cells #[.int .i64 0, .slice none 0 0] 27)) := hW
  have hF : Pair w W := by rw [hW]; exact Pair.start w _
  have HF : Hid (Pair w W) := hF
  have HS : Hid (∀ w', Below W.heap.size W w' → Strs w' a xs) := fun w' h => (hl.below hF.below).below h
  have HZ : Hid (∀ i (hi : i < xs.length), xs[i].size ≤ 1048576) := hz
  have HTY : Hid (∀ w', w' = W → Calls _ _ _ w' _) := fun w' q => spec_types w' a cap xs hn (q ▸ hl.below hF.below) hz
  have HNO : Hid (roB xs s = false → ∀ w', Below w.heap.size w w' → _) := fun h w' hb => ro_no h hb
  have HPR : Hid (preB xs s = (typesOk xs && (decide (8 ≤ s.size) && (markB xs s && ((s.size : Int) == 64 * runOf (kd xs (wAt s 0 - 1))))))) := rfl
  clear hW hl hz hF
  cases ht : typesOk xs with
  | false =>
    rw [ht] at HTY HPR
    have HN2 : Hid (∀ w', Below w.heap.size w w' → _) := HNO.out (ro_pre (by rw [HPR.out]; rfl))
    have HF2 : Hid (Pair w W) := HF.out
    clear ht HPR HNO
    go_enter Try.func10, Try.ntmps10
    go_wp2_with fail
    rw [← HW.out]
    refine (HTY.out W rfl).mono ?_
    rintro e w2 ⟨rfl, rfl⟩
    have v0 := HF2.out.cell 0 _ rfl
    have v1 := HF2.out.cell 1 _ rfl
    have z0 := HF2.out.free 0
    have z1 := HF2.out.free 1
    have HC2 : Hid (∀ x0 x1, _) := pair_set v0 v1
    go_wp2
    refine bodyPost_ret (v := .tuple #[.agg #[.int .i64 0, .slice none 0 0], .bool false]) ?_ rfl (HN2.out _ (HF2.out.put _ _))
    obtain ⟨q0, q1⟩ := HC2.out (.int .i64 0) (.slice none 0 0)
    simp [results, Try.results10, go_sem, q0, q1]
  | true =>
    rw [ht] at HTY HPR
    by_cases h8 : s.size < 64
    · have HN2 : Hid (∀ w', Below w.heap.size w w' → _) := HNO.out (ro_pre (pre_short xs s (by omega)))
      have h8i : (s.size : Int) < 64 := by omega
      have HF2 : Hid (Pair w W) := HF.out
      clear ht HPR HNO h8
      go_enter Try.func10, Try.ntmps10
      go_wp2_with fail
      rw [← HW.out]
      refine (HTY.out W rfl).mono ?_
      rintro e w2 ⟨rfl, rfl⟩
      have v0 := HF2.out.cell 0 _ rfl
      have v1 := HF2.out.cell 1 _ rfl
      have z0 := HF2.out.free 0
      have z1 := HF2.out.free 1
      have HC2 : Hid (∀ x0 x1, _) := pair_set v0 v1
      go_wp2
      refine bodyPost_ret (v := .tuple #[.agg #[.int .i64 0, .slice none 0 0], .bool false]) ?_ rfl (HN2.out _ (HF2.out.put _ _))
      obtain ⟨q0, q1⟩ := HC2.out (.int .i64 0) (.slice none 0 0)
      simp [results, Try.results10, go_sem, q0, q1]
    · have h8i : ¬ (s.size : Int) < 64 := by omega
      have h8j : (8 : Int) ≤ (s.size : Int) := by omega
      have hx8 : (s.extract 0 8).size = 8 := by rw [ByteArray.size_extract]; omega
      have HNM : Hid (∀ w, Calls _ _ _ w _) := fun w => (spec_eight (s.extract 0 8) w (by omega)).mono fun _ _ h => (⟨h.1, h.2.symm⟩ : _ ∧ w = _)
      have HWA : Hid (wAt s 0 = wrap64 (num (s.extract 0 8).data.toList)) := rfl
      have hml : wAt s 0 < 9223372036854775808 := wAt_lt _ _
      have HIN : Hid (∀ w, Calls Try.prog 34 #[.int .i64 (wAt s 0), .int .i64 1, .int .i64 (xs.length : Int)] w fun e w' => e = .returned (.bool (markB xs s)) ∧ w = w') := fun w => specIn_any w (wAt s 0) 1 (xs.length : Int)
      rw [decide_eq_true (show 8 ≤ s.size by omega)] at HPR
      rw [← HWA.out] at HNM
      have HRO : Hid (roB xs s = (preB xs s && ((objStr xs (wAt s 0 - 1) (valsR s (kd xs (wAt s 0 - 1)).size)).toList == s.toList))) := rfl
      have HRT : Hid (roT xs s = if roB xs s = true then wAt s 0 - 1 else 0) := rfl
      have HRV : Hid (roV xs s = if roB xs s = true then valsR s (kd xs (wAt s 0 - 1)).size else []) := rfl
      generalize hmke : wAt s 0 = mk at HNM HIN HPR HRO HRT HRV hml HWA
      have HWA2 : Hid (wAt s 0 = mk) := hmke
      clear hmke
      cases hm : markB xs s with
      | false =>
        rw [hm] at HIN HPR
        have HN2 : Hid (∀ w', Below w.heap.size w w' → _) := HNO.out (ro_pre (by rw [HPR.out]; rfl))
        have HF2 : Hid (Pair w W) := HF.out
        clear ht HPR HNO h8 hm HRO HRT HRV HWA hml
        go_enter Try.func10, Try.ntmps10
        go_wp2_with fail
        rw [← HW.out]
        refine (HTY.out W rfl).mono ?_
        rintro e w2 ⟨rfl, rfl⟩
        go_wp2_with fail
        refine (HNM.out _).mono ?_
        rintro e w2 ⟨rfl, rfl⟩
        go_wp2_with fail
        refine (HIN.out _).mono ?_
        rintro e w2 ⟨rfl, rfl⟩
        have v0 := HF2.out.cell 0 _ rfl
        have v1 := HF2.out.cell 1 _ rfl
        have z0 := HF2.out.free 0
        have z1 := HF2.out.free 1
        have HC2 : Hid (∀ x0 x1, _) := pair_set v0 v1
        go_wp2
        refine bodyPost_ret (v := .tuple #[.agg #[.int .i64 0, .slice none 0 0], .bool false]) ?_ rfl (HN2.out _ (HF2.out.put _ _))
        obtain ⟨q0, q1⟩ := HC2.out (.int .i64 0) (.slice none 0 0)
        simp [results, Try.results10, go_sem, q0, q1]
      | true =>
        rw [hm] at HIN HPR
        have hmk : 1 ≤ mk ∧ mk ≤ (xs.length : Int) := by
          have := hm
          unfold markB at this
          rw [HWA2.out, Bool.and_eq_true] at this
          exact ⟨of_decide_eq_true this.1, of_decide_eq_true this.2⟩
        obtain ⟨p, hp⟩ : ∃ p : Nat, mk = (p : Int) + 1 := ⟨(mk - 1).toNat, by omega⟩
        have hpl : p < xs.length := by omega
        have hkd : kd xs (mk - 1) = xs[p] := by rw [hp, show (p : Int) + 1 - 1 = (p : Int) by omega]; exact kd_at p hpl
        have hmp : mk - 1 = (p : Int) := by omega
        have hty : isType xs[p] = true := by
          have := ht
          unfold typesOk at this
          rw [Bool.and_eq_true, List.all_eq_true] at this
          exact this.2 _ (List.getElem_mem hpl)
        have h23 := isType_size hty
        have hru : runOf xs[p] = (((xs[p].size + 8) / 8 : Nat) : Int) := by unfold runOf; rw [if_pos hty]; omega
        rw [hkd, hru] at HPR
        rw [hkd] at HRO HRV
        rw [hmp] at HRO HRT
        have HRU : Hid (∀ w', Calls _ _ _ w' _) := fun w' => spec_run xs[p] w' (by omega)
        rw [hru] at HRU
        have HST : Hid (∀ w', Below W.heap.size W w' → ∃ b2 off : Nat, a = some ⟨b2, off, none⟩ ∧ w'.cell? ⟨b2, off + p, none⟩ = some (.string xs[p])) := fun w' h => HS.out w' h p hpl
        have hpi : (p : Int) < (xs.length : Int) := by omega
        have hp0 : (0 : Int) ≤ (p : Int) := by omega
        have hmw : IntKind.i64.wrap (mk - 1) = (p : Int) := by rw [hmp, IntKind.wrap_i64]; omega
        obtain ⟨rn, hrn⟩ : ∃ rn, rn = (xs[p].size + 8) / 8 := ⟨_, rfl⟩
        have hr4 : rn ≤ 4 := by omega
        have HBY : Hid (8 + 8 * xs[p].size ≤ 64 * rn) := by show 8 + 8 * xs[p].size ≤ _; omega
        rw [← hrn] at HPR HRU
        have HOB : Hid (∀ (w' : World) (b : Option Addr) (vc : Nat), Strs w' a xs → Nums w' b (valsR s xs[p].size) → Calls Try.prog 11 #[.slice a xs.length cap, .agg #[.int .i64 (p : Int), .slice b xs[p].size vc]] w' fun e w'' => e = .returned (.string (objStr xs (p : Int) (valsR s xs[p].size))) ∧ Below w'.heap.size w' w'') := fun w' b vc q1 q2 => spec_objvals w' a cap xs p b vc s _ hn HZ.out q1 q2
        generalize hkk : xs[p] = kk at HPR HRU HST HRO HRV HOB h23 HBY
        clear hrn hkd hty hru hkk ht hm hmk hp
        obtain ⟨V, hV⟩ : ∃ V, V = W.alloc (.cells #[.int .i64 (p : Int), .slice none 0 0] 27) := ⟨_, rfl⟩
        have HV : Hid (V = W.alloc (.cells #[.int .i64 (p : Int), .slice none 0 0] 27)) := hV
        have hVB : Below W.heap.size W V := by rw [hV]; exact (Below.refl _ _).alloc (Nat.le_refl _) _
        have HVB : Hid (Below W.heap.size W V) := hVB
        have hC0 : OBox W W.heap.size (p : Int) [] (.slice none 0 0) V := by rw [hV]; exact OBox.start W W _ _ (Below.refl _ _)
        obtain ⟨cb, hcb⟩ : ∃ cb, cb = W.heap.size := ⟨_, rfl⟩
        have HCB : Hid (cb = W.heap.size) := hcb
        rw [← hcb] at hC0
        have HC0 : Hid (OBox W cb (p : Int) [] (.slice none 0 0) V) := hC0
        obtain ⟨b2, off, rfl, c0⟩ := HST.out W (Below.refl _ _)
        have hb2 : b2 < W.heap.size := World.block_lt_of_cell? W _ c0
        have HC3 : Hid (∀ w', Below W.heap.size W w' → w'.cell? ⟨b2, off + p, none⟩ = some (.string kk)) := fun w' h => by rw [h.cell (p := ⟨b2, off + p, none⟩) hb2]; exact c0
        clear hV hVB hC0 hcb HST
        by_cases hsz : (s.size : Int) = 64 * (rn : Int)
        · have HRO2 : Hid (roB xs s = ((objStr xs (p : Int) (valsR s kk.size)).toList == s.toList)) := by
            show roB xs s = _
            rw [HRO.out, HPR.out, show ((s.size : Int) == 64 * (rn : Int)) = true by simpa using hsz]; rfl
          have hne : (((s.size : Int) != 64 * (rn : Int))) = false := by simp; omega
          have hkl : 8 + 8 * kk.size ≤ s.size := by have := HBY.out; omega
          have HKL : Hid (8 + 8 * kk.size ≤ s.size) := hkl
          obtain ⟨kn, hkn⟩ : ∃ kn, kn = kk.size := ⟨_, rfl⟩
          have HKN : Hid (kn = kk.size) := hkn
          rw [← hkn] at HRO2 HRV HOB HKL h23
          obtain ⟨h1k, h23k⟩ := h23
          have hks : kk.size = kn := hkn.symm
          clear HPR h8 HRO HWA hsz HBY hkl hkn hml
          go_enter Try.func10, Try.ntmps10
          go_wp2_with fail
          rw [← HW.out]
          refine (HTY.out W rfl).mono ?_
          rintro e w2 ⟨rfl, rfl⟩
          go_wp2_with fail
          refine (HNM.out _).mono ?_
          rintro e w2 ⟨rfl, rfl⟩
          go_wp2_with fail
          refine (HIN.out _).mono ?_
          rintro e w2 ⟨rfl, rfl⟩
          clear HNM HIN HTY
          go_wp2_with fail
          refine (HRU.out _).mono ?_
          rintro e w2 ⟨rfl, rfl⟩
          clear HRU
          go_wp2
          rw [← HV.out, ← HCB.out]
          clear hne c0 hb2
          go_loopw [9] (fun i wr => ∃ (k : Nat) (v : Value), k ≤ kn ∧ i = .int .i64 (k : Int) ∧ OBox W cb (p : Int) (valsR s k) v wr) (fun i _ => kn - (intOf i).toNat)
          case atStart => exact ⟨0, _, Nat.zero_le _, rfl, HC0.out⟩
          case round =>
            obtain ⟨k, v, hk, rfl, hbox⟩ := hrel
            have HX : Hid (OBox W cb (p : Int) (valsR s k) v wr) := hbox
            clear hbox
            have c3 := HC3.out wr HX.out.below
            by_cases hlt : k < kn
            · have hlti : (k : Int) < (kn : Int) := by omega
              have hbound := HKL.out
              have g0 : 0 ≤ 8 + 8 * (k : Int) := by omega
              have g1 : 8 + 8 * (k : Int) ≤ 16 + 8 * (k : Int) := by omega
              have g2 : 16 + 8 * (k : Int) ≤ (s.size : Int) := by omega
              have g3 : (8 + 8 * (k : Int)).toNat = 8 + 8 * k := by omega
              have g4 : (16 + 8 * (k : Int)).toNat = 8 + 8 * k + 8 := by omega
              have hxs : (s.extract (8 + 8 * k) (8 + 8 * k + 8)).size = 8 := by rw [ByteArray.size_extract]; omega
              obtain ⟨y, hy⟩ : ∃ y, y = wAt s (8 + 8 * k) := ⟨_, rfl⟩
              have HNk : Hid (∀ w, Calls Try.prog 33 #[.string (s.extract (8 + 8 * k) (8 + 8 * k + 8))] w fun e w' => e = .returned (.tuple #[.int .i64 y, .bool true]) ∧ w = w') := fun w => by
                rw [hy]
                exact (spec_eight _ w (by omega)).mono fun _ _ h => ⟨h.1, h.2.symm⟩
              have HSS : Hid (valsR s (k + 1) = valsR s k ++ [y]) := by rw [hy]; exact valsR_succ s k
              have HLK : Hid ((valsR s k).length ≤ 1048576) := by show (valsR s k).length ≤ _; rw [valsR_len]; omega
              have c1 := HX.out.c1
              generalize valsR s k = L at HX HSS HLK
              clear hy hxs hbound
              go_wp2_with fail
              refine (HNk.out _).mono ?_
              rintro e w4 ⟨rfl, rfl⟩
              go_wp2_with (refine wpList_push wr (by rfl) _ _ (by rfl) (cb + 1) v L y HX.out.own (by rfl) (by rfl) HLK.out HX.out.lt ?_; intro g cap6 w6 hown6 hb6 hB6; have HX6 : Hid (_) := HX.out.step hown6 hb6; obtain ⟨k6, f6⟩ := HX.out.kept hb6; clear hown6 hb6 hB6)
              go_roundw
              case rel => exact ⟨k + 1, _, by omega, by go_num, by rw [HSS.out]; exact HX6.out⟩
              case measure => simp [intOf]; omega
            · obtain rfl : kn = k := by omega
              have HWR : Hid (Below W.heap.size W wr) := HX.out.below
              have c4 := HX.out.c0
              have c5 := HX.out.c1
              obtain ⟨a3, g3, cap3, rfl, hg3, hin⟩ := ints_of_row HX.out.own
              rw [valsR_len] at c5 HX
              have HOB2 : Hid (∀ w', w' = wr → Calls _ _ _ w' _) := fun w' q => HOB.out w' a3 cap3 (q ▸ HS.out wr HWR.out) (q ▸ hin.nums)
              generalize objStr xs (p : Int) (valsR s kn) = tt at HOB2 HRO2
              clear hin hg3
              cases hro : roB xs s with
              | false =>
                have e1 : (tt.toList == s.toList) = false := by rw [← HRO2.out]; exact hro
                have HN2 : Hid (∀ w', Below w.heap.size w w' → _) := HNO.out hro
                clear hro
                go_wp2_with fail
                refine (HOB2.out _ rfl).mono ?_
                rintro e w6 ⟨rfl, hb6⟩
                have HF2 : Hid (Pair w w6) := HF.out.later (HWR.out.trans (hb6.mono HWR.out.size))
                clear hb6
                have v0 := HF2.out.cell 0 _ rfl
                have v1 := HF2.out.cell 1 _ rfl
                have z0 := HF2.out.free 0
                have z1 := HF2.out.free 1
                have HC2 : Hid (∀ x0 x1, _) := pair_set v0 v1
                go_wp2
                refine bodyPost_ret (v := .tuple #[.agg #[.int .i64 0, .slice none 0 0], .bool false]) ?_ rfl (HN2.out _ (HF2.out.put _ _))
                obtain ⟨q0, q1⟩ := HC2.out (.int .i64 0) (.slice none 0 0)
                simp [results, Try.results10, go_sem, q0, q1]
              | true =>
                have e1 : (tt.toList == s.toList) = true := by rw [← HRO2.out]; exact hro
                have HRT2 : Hid (roT xs s = (p : Int)) := by show roT xs s = _; rw [HRT.out, hro]; rfl
                have HRV2 : Hid (roV xs s = valsR s kn) := by show roV xs s = _; rw [HRV.out, hro]; rfl
                have HRB2 : Hid (roB xs s = true) := hro
                clear hro
                go_wp2_with fail
                refine (HOB2.out _ rfl).mono ?_
                rintro e w6 ⟨rfl, hb6⟩
                have HF2 : Hid (Pair w w6) := HF.out.later (HWR.out.trans (hb6.mono HWR.out.size))
                have HX6 : Hid (OBox _ _ _ _ _ w6) := HX.out.later hb6
                have y0 := HX6.out.c0
                have y1 := HX6.out.c1
                clear hb6 c4 c5
                have v0 := HF2.out.cell 0 _ rfl
                have v1 := HF2.out.cell 1 _ rfl
                have z0 := HF2.out.free 0
                have z1 := HF2.out.free 1
                have HC2 : Hid (∀ x0 x1, _) := pair_set v0 v1
                go_wp2
                refine bodyPost_ret (v := .tuple #[.agg #[.int .i64 (p : Int), .slice a3 kn cap3], .bool true]) ?_ rfl ?_
                · obtain ⟨q0, q1⟩ := HC2.out (.int .i64 (p : Int)) (.slice a3 kn cap3)
                  simp [results, Try.results10, go_sem, q0, q1]
                · refine ⟨.slice a3 kn cap3, ?_, ?_, HF2.out.put _ _⟩
                  · rw [HRT2.out, HRB2.out]
                  · rw [HRV2.out]
                    have hlt : w.heap.size < cb + 1 := by have := HF.out.lt; have := HX6.out.at0; omega
                    exact row_mono (row_aside (row_aside HX6.out.own hlt) hlt) (by omega)
        · have HN2 : Hid (∀ w', Below w.heap.size w w' → _) := HNO.out (ro_pre (by rw [HPR.out, show ((s.size : Int) == 64 * (rn : Int)) = false by simpa using hsz]; rfl))
          have hne : (((s.size : Int) != 64 * (rn : Int))) = true := by simp; omega
          clear HPR HNO h8 HRO HRT HRV HWA hml hsz
          go_enter Try.func10, Try.ntmps10
          go_wp2_with fail
          rw [← HW.out]
          refine (HTY.out W rfl).mono ?_
          rintro e w2 ⟨rfl, rfl⟩
          go_wp2_with fail
          refine (HNM.out _).mono ?_
          rintro e w2 ⟨rfl, rfl⟩
          go_wp2_with fail
          refine (HIN.out _).mono ?_
          rintro e w2 ⟨rfl, rfl⟩
          go_wp2_with fail
          refine (HRU.out _).mono ?_
          rintro e w2 ⟨rfl, rfl⟩
          have HF2 : Hid (Pair w _) := HF.out
          have v0 := HF2.out.cell 0 _ rfl
          have v1 := HF2.out.cell 1 _ rfl
          have z0 := HF2.out.free 0
          have z1 := HF2.out.free 1
          have HC2 : Hid (∀ x0 x1, _) := pair_set v0 v1
          go_wp2
          refine bodyPost_ret (v := .tuple #[.agg #[.int .i64 0, .slice none 0 0], .bool false]) ?_ rfl (HN2.out _ (HF2.out.put _ _))
          obtain ⟨q0, q1⟩ := HC2.out (.int .i64 0) (.slice none 0 0)
          simp [results, Try.results10, go_sem, q0, q1]
end Go.Proofs.Ytnacdfoejmjlgaa.obj
