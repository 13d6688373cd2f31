/-
  Forwarded, by the specification; nothing that was there is written.
-/
import Derived.Test.YtnacdfoejmjlgaaFwd4
import Derived.Deep.RegionLaw
namespace Go.Proofs.Ytnacdfoejmjlgaa.obj
open Go.RowKit
open kinds ints ref

theorem fwV_len (xs : List ByteArray) (t : Int) (vs fr to : List Int) : (fwV xs t vs fr to).length ≤ vs.length := by
  unfold fwV
  split
  · rw [fwdL_len]; exact Nat.le_refl _
  · simp
set_option maxHeartbeats 1000000 in
set_option maxRecDepth 20000 in
theorem spec_forward (w : World) (a : Option Addr) (cap : Nat) (xs : List ByteArray) (t : Int) (b : Option Addr) (vcap : Nat) (vs : List Int) (c d : Option Addr) (cc cd : Nat) (fr to : List Int) (hn : xs.length ≤ 1048576) (hz : ∀ i (hi : i < xs.length), xs[i].size ≤ 1048576) (hl : Strs w a xs) (hvs : Nums w b vs) (_HV : ∀ x ∈ vs, x < 9223372036854775808) (hfn : fr.length ≤ 1048576) (htn : to.length ≤ 1048576) (hc : Nums w c fr) (hd : Nums w d to) (_HT : ∀ x ∈ to, x < 9223372036854775808) :
    Calls Try.prog 18 #[.slice a xs.length cap, .agg #[.int .i64 t, .slice b vs.length vcap], .slice c fr.length cc, .slice d to.length cd] w fun e w' => FOut (fwT xs t vs fr to) (fwV xs t vs fr to).length (fwV xs t vs fr to) w e w' := by
  obtain ⟨w1, hw1⟩ : ∃ w1, w1 = w.alloc (.cells #[.int .i64 t, .slice b vs.length vcap] 27) := ⟨_, rfl⟩
  obtain ⟨W, hW⟩ : ∃ W, W = w1.alloc (.cells #[.int .i64 0, .slice none 0 0] 27) := ⟨_, rfl⟩
  have HW : Hid (W = (w.alloc (.cells #[.int .i64 t, .slice b vs.length vcap] 27)).alloc (.cells #[.int .i64 0, .slice none 0 0] 27)) := by rw [hw1] at hW; exact hW
  have hb1 : Below w.heap.size w w1 := by rw [hw1]; exact (Below.refl _ _).alloc (Nat.le_refl _) _
  have hP : Pair w1 W := by rw [hW]; exact Pair.start w1 _
  have hs1 : w1.heap.size = w.heap.size + 1 := by rw [hw1]; simp
  have hs2 : W.heap.size = w.heap.size + 2 := by rw [hW]; simp [hs1]
  have hb0 : Below w.heap.size w W := hb1.trans (hP.below.mono hb1.size)
  have HB0 : Hid (Below w.heap.size w W) := hb0
  have q0 : W.cell? ⟨w.heap.size, 0, none⟩ = some (.int .i64 t) := by rw [hW, World.cell?_alloc_past _ _ _ (by simp [hs1]), hw1, World.cell?_alloc_new]; rfl
  have q1 : W.cell? ⟨w.heap.size, 1, none⟩ = some (.slice b vs.length vcap) := by rw [hW, World.cell?_alloc_past _ _ _ (by simp [hs1]), hw1, World.cell?_alloc_new]; rfl
  have HK : Hid (∀ w', Below W.heap.size W w' → w'.cell? ⟨w.heap.size, 0, none⟩ = some (.int .i64 t) ∧ w'.cell? ⟨w.heap.size, 1, none⟩ = some (.slice b vs.length vcap)) := fun w' h =>
    ⟨by rw [h.cell (p := ⟨w.heap.size, 0, none⟩) (by show w.heap.size < _; omega)]; exact q0, by rw [h.cell (p := ⟨w.heap.size, 1, none⟩) (by show w.heap.size < _; omega)]; exact q1⟩
  have HR : Hid (∀ w', Below W.heap.size W w' → w'.cell? ⟨w.heap.size + 1, 0, none⟩ = some (.int .i64 0) ∧ w'.cell? ⟨w.heap.size + 1, 1, none⟩ = some (.slice none 0 0) ∧ w'.frozen? ⟨w.heap.size + 1, 0, none⟩ = false ∧ w'.frozen? ⟨w.heap.size + 1, 1, none⟩ = false) := fun w' h => by
    have hp := hP.later h
    have v0 := hp.cell 0 _ rfl
    have v1 := hp.cell 1 _ rfl
    have z0 := hp.free 0
    have z1 := hp.free 1
    rw [hs1] at v0 v1 z0 z1
    exact ⟨v0, v1, z0, z1⟩
  have HS : Hid (∀ w', Below W.heap.size W w' → Strs w' a xs ∧ Nums w' b vs ∧ Nums w' c fr ∧ Nums w' d to) := fun w' h => ⟨(hl.below hb0).below h, (hvs.below hb0).below h, (hc.below hb0).below h, (hd.below hb0).below h⟩
  have HPUT : Hid (∀ w' x0 x1, Below W.heap.size W w' → Below w.heap.size w ((w'.setCell ⟨w.heap.size + 1, 0, none⟩ x0).setCell ⟨w.heap.size + 1, 1, none⟩ x1)) := fun w' x0 x1 h => ((hb0.trans (h.mono hb0.size)).setCell (p := ⟨w.heap.size + 1, 0, none⟩) (by show w.heap.size ≤ w.heap.size + 1; omega) _).setCell (p := ⟨w.heap.size + 1, 1, none⟩) (by show w.heap.size ≤ w.heap.size + 1; omega) _
  have HNO : Hid (fwB xs t vs fr to = false → ∀ w', Below w.heap.size w w' → FOut (fwT xs t vs fr to) (fwV xs t vs fr to).length (fwV xs t vs fr to) w (.returned (.agg #[.int .i64 0, .slice none 0 0])) w') := fun h w' hb => fw_no h hb
  have HOK : Hid (∀ w', w' = W → Calls _ _ _ w' _) := fun w' q => spec_objok w' a cap xs t b vcap vs hn hz (q ▸ hl.below hb0) (q ▸ hvs.below hb0)
  have HDE : Hid (fwB xs t vs fr to = (objOkB xs t vs && fwdOkB fr to)) := rfl
  have HS2 : Hid (W.heap.size = w.heap.size + 2) := hs2
  have HW0 : Hid (∀ w', Below W.heap.size W w' → W.heap.size ≤ w'.heap.size) := fun w' h => h.size
  obtain ⟨m0, m1⟩ := HK.out W (Below.refl _ _)
  clear hw1 hW hb1 hP hs1 hs2 hb0 q0 q1 hl hvs hc hd hz
  cases ho : objOkB xs t vs with
  | false =>
    rw [ho] at HOK HDE
    have HN2 : Hid (∀ w', Below w.heap.size w w' → _) := HNO.out HDE.out
    clear ho HDE
    go_enter Try.func18, Try.ntmps18
    go_wp2_with fail
    rw [← HW.out]
    refine (HOK.out W rfl).mono ?_
    rintro e w2 ⟨rfl, hb2⟩
    have HB2 : Hid (Below W.heap.size W w2) := hb2
    clear hb2 m0 m1
    obtain ⟨v0, v1, z0, z1⟩ := HR.out w2 HB2.out
    have HC2 : Hid (∀ x0 x1, _) := pair_set v0 v1
    go_wp2
    refine bodyPost_ret (v := .agg #[.int .i64 0, .slice none 0 0]) ?_ rfl (HN2.out _ (HPUT.out _ _ _ HB2.out))
    obtain ⟨q0, q1⟩ := HC2.out (.int .i64 0) (.slice none 0 0)
    simp [results, Try.results18, go_sem, q0, q1]
  | true =>
    obtain ⟨p, rfl, hpl, hp12, hkd, hty, hlen, h23, h1v⟩ := objOk_in ho
    rw [ho] at HOK HDE
    have HFB : Hid (fwdOkB fr to = (((fr.length : Int) == (to.length : Int)) && (decide ((to.length : Int) ≤ 400) && allRef to))) := rfl
    by_cases hft : fr.length = to.length
    · by_cases h400 : to.length ≤ 400
      · have HFB2 : Hid (fwdOkB fr to = allRef to) := by
          show fwdOkB fr to = _
          rw [HFB.out, show ((fr.length : Int) == (to.length : Int)) = true by simp; omega, decide_eq_true (by omega)]; rfl
        rw [HFB2.out] at HDE
        have hne : ((fr.length : Int) != (to.length : Int)) = false := by simp; omega
        have hgt : ¬ (400 : Int) < (fr.length : Int) := by omega
        have HYES : Hid (allRef to = true → fwT xs (p : Int) vs fr to = (p : Int) ∧ fwV xs (p : Int) vs fr to = fwdL (fwd fr to) xs[p] vs vs.length) := fun ha => by
          have h := HDE.out
          rw [ha] at h
          constructor
          · unfold fwT; rw [h]; rfl
          · unfold fwV; rw [h, hkd]; rfl
        have HNO2 : Hid (allRef to = false → ∀ w', Below w.heap.size w w' → _) := fun ha => HNO.out (by rw [HDE.out, ha]; rfl)
        have HLF : Hid (∀ w', Below W.heap.size W w' → Calls _ _ _ w' _) := fun w' h => l4fwd_any w' a cap xs p b vcap vs c d cc cd fr to (HS.out w' h).1 hpl hlen h23 (HS.out w' h).2.1 hfn hft (HS.out w' h).2.2.1 (HS.out w' h).2.2.2
        unfold FOut at HLF
        have HFT : Hid (fr.length = to.length) := hft
        clear ho HDE hkd hty hlen hft HNO h400 HFB HFB2
        go_enter Try.func18, Try.ntmps18
        go_wp2_with fail
        rw [← HW.out]
        refine (HOK.out W rfl).mono ?_
        rintro e w2 ⟨rfl, hb2⟩
        have HB2 : Hid (Below W.heap.size W w2) := hb2
        clear hb2 m0 m1
        go_wp2
        clear hne hgt
        go_loopw [9] (fun i wr => ∃ k : Nat, k ≤ to.length ∧ i = .int .i64 (k : Int) ∧ allRef (to.take k) = true ∧ w2 = wr) (fun i _ => to.length - (intOf i).toNat)
        case atStart => exact ⟨0, Nat.zero_le _, rfl, rfl, rfl⟩
        case round =>
          obtain ⟨k, hk, rfl, hok, rfl⟩ := hrel
          have HOK2 : Hid (allRef (to.take k) = true) := hok
          clear hok
          by_cases hlt : k < to.length
          · have hlti : (k : Int) < (to.length : Int) := by omega
            have hk0 : (0 : Int) ≤ (k : Int) := by omega
            obtain ⟨b3, o3, rfl, c1⟩ := (HS.out w2 HB2.out).2.2.2 k hlt
            have HTK : Hid (allRef (to.take (k + 1)) = (allRef (to.take k) && decide (0 ≤ refKind to[k]))) := by
              show allRef (to.take (k + 1)) = _
              rw [List.take_succ_eq_append_getElem hlt, allRef_snoc]
            have HNA : Hid (allRef (to.take (k + 1)) = false → allRef to = false) := fun h => by
              unfold allRef at h ⊢
              rw [List.all_eq_false] at h ⊢
              obtain ⟨x, hx, q⟩ := h
              exact ⟨x, List.mem_of_mem_take hx, q⟩
            have HRK : Hid (∀ w, Calls _ _ _ w _) := fun w => specRefKind to[k] w
            generalize to[k] = x at c1 HTK HRK
            generalize refKind x = rk at HTK HRK
            by_cases hneg : rk < 0
            · have HN2 : Hid (∀ w', Below w.heap.size w w' → _) := HNO2.out (HNA.out (by rw [HTK.out, decide_eq_false (by omega)]; simp))
              obtain ⟨v0, v1, z0, z1⟩ := HR.out w2 HB2.out
              have HC2 : Hid (∀ x0 x1, _) := pair_set v0 v1
              go_wp2_with fail
              refine (HRK.out _).mono ?_
              rintro e w4 ⟨rfl, rfl⟩
              go_wp2
              refine bodyPost_ret (v := .agg #[.int .i64 0, .slice none 0 0]) ?_ rfl (HN2.out _ (HPUT.out _ _ _ HB2.out))
              obtain ⟨q0, q1⟩ := HC2.out (.int .i64 0) (.slice none 0 0)
              simp [results, Try.results18, go_sem, q0, q1]
            · have HOK3 : Hid (allRef (to.take (k + 1)) = true) := by
                show allRef (to.take (k + 1)) = true
                rw [HTK.out, HOK2.out, decide_eq_true (by omega)]; rfl
              go_wp2_with fail
              refine (HRK.out _).mono ?_
              rintro e w4 ⟨rfl, rfl⟩
              go_wp2
              go_roundw
              case rel => exact ⟨k + 1, by omega, by go_num, HOK3.out, trivial⟩
              case measure => simp [intOf]; omega
          · obtain rfl : k = to.length := by omega
            have hall : allRef to = true := by
              have := HOK2.out
              rw [List.take_length] at this
              exact this
            obtain ⟨y1, y2⟩ := HYES.out hall
            have HY1 : Hid (fwT xs (p : Int) vs fr to = (p : Int)) := y1
            have HY2 : Hid (fwV xs (p : Int) vs fr to = fwdL (fwd fr to) xs[p] vs vs.length) := y2
            obtain ⟨m0, m1⟩ := HK.out w2 HB2.out
            clear y1 y2 hall
            go_wp2_with fail
            refine (HLF.out w2 HB2.out).mono ?_
            rintro e w6 ⟨a6, g6, c6, rfl, hg6, hin6, hb6⟩
            have HB6 : Hid (Below W.heap.size W w6) := HB2.out.trans (hb6.mono HB2.out.size)
            have HI6 : Hid (Ints w6 a6 g6 (fwdL (fwd fr to) xs[p] vs vs.length)) := hin6
            obtain ⟨v0, v1, z0, z1⟩ := HR.out w6 HB6.out
            have HC2 : Hid (∀ x0 x1, _) := pair_set v0 v1
            have HGS : Hid (w.heap.size + 2 ≤ g6) := by show w.heap.size + 2 ≤ g6; have := HS2.out; have := HW0.out w2 HB2.out; omega
            clear hb6 hin6 hg6 m0 m1
            go_wp2
            refine bodyPost_ret (v := .agg #[.int .i64 (p : Int), .slice a6 vs.length c6]) ?_ rfl ?_
            · obtain ⟨q0, q1⟩ := HC2.out (.int .i64 (p : Int)) (.slice a6 vs.length c6)
              simp [results, Try.results18, go_sem, q0, q1]
            · rw [HY1.out, HY2.out, fwdL_len]
              have hgs := HGS.out
              refine ⟨a6, g6, c6, rfl, by omega, ?_, HPUT.out _ _ _ HB6.out⟩
              exact (HI6.out.grown (grown_set _ _ _ _) (by omega)).grown (grown_set _ _ _ _) (by omega)
      · have HN2 : Hid (∀ w', Below w.heap.size w w' → _) := HNO.out (by rw [HDE.out, HFB.out, decide_eq_false (show ¬ (to.length : Int) ≤ 400 by omega)]; simp)
        have hne : ((fr.length : Int) != (to.length : Int)) = false := by simp; omega
        have hgt : (400 : Int) < (fr.length : Int) := by omega
        clear ho HDE hft HNO h400 HFB hlen hkd hty h23 h1v
        go_enter Try.func18, Try.ntmps18
        go_wp2_with fail
        rw [← HW.out]
        refine (HOK.out W rfl).mono ?_
        rintro e w2 ⟨rfl, hb2⟩
        have HB2 : Hid (Below W.heap.size W w2) := hb2
        clear hb2 m0 m1
        obtain ⟨v0, v1, z0, z1⟩ := HR.out w2 HB2.out
        have HC2 : Hid (∀ x0 x1, _) := pair_set v0 v1
        go_wp2
        refine bodyPost_ret (v := .agg #[.int .i64 0, .slice none 0 0]) ?_ rfl (HN2.out _ (HPUT.out _ _ _ HB2.out))
        obtain ⟨q0, q1⟩ := HC2.out (.int .i64 0) (.slice none 0 0)
        simp [results, Try.results18, go_sem, q0, q1]
    · have HN2 : Hid (∀ w', Below w.heap.size w w' → _) := HNO.out (by rw [HDE.out, HFB.out, show ((fr.length : Int) == (to.length : Int)) = false by simp; omega]; simp)
      have hne : ((fr.length : Int) != (to.length : Int)) = true := by simp; omega
      clear ho HDE hft HNO HFB hlen hkd hty h23 h1v
      go_enter Try.func18, Try.ntmps18
      go_wp2_with fail
      rw [← HW.out]
      refine (HOK.out W rfl).mono ?_
      rintro e w2 ⟨rfl, hb2⟩
      have HB2 : Hid (Below W.heap.size W w2) := hb2
      clear hb2 m0 m1
      obtain ⟨v0, v1, z0, z1⟩ := HR.out w2 HB2.out
      have HC2 : Hid (∀ x0 x1, _) := pair_set v0 v1
      go_wp2
      refine bodyPost_ret (v := .agg #[.int .i64 0, .slice none 0 0]) ?_ rfl (HN2.out _ (HPUT.out _ _ _ HB2.out))
      obtain ⟨q0, q1⟩ := HC2.out (.int .i64 0) (.slice none 0 0)
      simp [results, Try.results18, go_sem, q0, q1]
end Go.Proofs.Ytnacdfoejmjlgaa.obj
