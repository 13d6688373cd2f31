/-
  Forwarded, by the program; nothing that was there is written.
-/
import Derived.Test.YtngpmohmnpbcnaaFwd3
import Derived.Deep.RegionLaw
namespace Go.Proofs.Ytngpmohmnpbcnaa.obj
open Go.RowKit
open kinds ints ref

def fwB (xs : List ByteArray) (t : Int) (vs fr to : List Int) : Bool := objOkB xs t vs && fwdOkB fr to
def fwT (xs : List ByteArray) (t : Int) (vs fr to : List Int) : Int := if fwB xs t vs fr to = true then t else 0
def fwV (xs : List ByteArray) (t : Int) (vs fr to : List Int) : List Int := if fwB xs t vs fr to = true then fwdL (fwd fr to) (kd xs t) vs vs.length else []
theorem fw_no {xs : List ByteArray} {t : Int} {vs fr to : List Int} {w w' : World} (h : fwB xs t vs fr to = false) (hb : Below w.heap.size w w') : FOut (fwT xs t vs fr to) (fwV xs t vs fr to).length (fwV xs t vs fr to) w (.returned (.agg #[.int .i64 0, .slice none 0 0])) w' := by
  unfold fwT fwV
  rw [h, if_neg (by decide), if_neg (by decide)]
  exact ⟨none, w.heap.size, 0, rfl, Nat.le_refl _, (fun i hi => by cases hi), hb⟩
set_option maxHeartbeats 1000000 in
set_option maxRecDepth 20000 in
theorem impl_forward (w : World) (a : Option Addr) (cap : Nat) (xs : List ByteArray) (t : Int) (b : Option Addr) (vcap : Nat) (vs : List Int) (c d : Option Addr) (cc cd : Nat) (fr to : List Int) (hn : xs.length ≤ 1048576) (hz : ∀ i (hi : i < xs.length), xs[i].size ≤ 1048576) (hl : Strs w a xs) (hvs : Nums w b vs) (HV : ∀ x ∈ vs, x < 9223372036854775808) (hfn : fr.length ≤ 1048576) (htn : to.length ≤ 1048576) (hc : Nums w c fr) (hd : Nums w d to) (HT : ∀ x ∈ to, x < 9223372036854775808) :
    Calls Try.prog 46 #[.slice a xs.length cap, .agg #[.int .i64 t, .slice b vs.length vcap], .slice c fr.length cc, .slice d to.length cd] w fun e w' => FOut (fwT xs t vs fr to) (fwV xs t vs fr to).length (fwV xs t vs fr to) w e w' := by
  obtain ⟨w1, hw1⟩ : ∃ w1, w1 = w.alloc (.cells #[.int .i64 t, .slice b vs.length vcap] 52) := ⟨_, rfl⟩
  obtain ⟨W, hW⟩ : ∃ W, W = w1.alloc (.cells #[.int .i64 0, .slice none 0 0] 52) := ⟨_, rfl⟩
  have HW : Hid (W = (w.alloc (.cells #[.int .i64 t, .slice b vs.length vcap] 52)).alloc (.cells #[.int .i64 0, .slice none 0 0] 52)) := by rw [hw1] at hW; exact hW
  have hb1 : Below w.heap.size w w1 := by rw [hw1]; exact (Below.refl _ _).alloc (Nat.le_refl _) _
  have hP : Pair w1 W := by rw [hW]; exact Pair.start w1 _
  have hs1 : w1.heap.size = w.heap.size + 1 := by rw [hw1]; simp
  have hs2 : W.heap.size = w.heap.size + 2 := by rw [hW]; simp [hs1]
  have hb0 : Below w.heap.size w W := hb1.trans (hP.below.mono hb1.size)
  have HB0 : Hid (Below w.heap.size w W) := hb0
  have q0 : W.cell? ⟨w.heap.size, 0, none⟩ = some (.int .i64 t) := by rw [hW, World.cell?_alloc_past _ _ _ (by simp [hs1]), hw1, World.cell?_alloc_new]; rfl
  have q1 : W.cell? ⟨w.heap.size, 1, none⟩ = some (.slice b vs.length vcap) := by rw [hW, World.cell?_alloc_past _ _ _ (by simp [hs1]), hw1, World.cell?_alloc_new]; rfl
  have HK : Hid (∀ w', Below W.heap.size W w' → w'.cell? ⟨w.heap.size, 0, none⟩ = some (.int .i64 t) ∧ w'.cell? ⟨w.heap.size, 1, none⟩ = some (.slice b vs.length vcap)) := fun w' h =>
    ⟨by rw [h.cell (p := ⟨w.heap.size, 0, none⟩) (by show w.heap.size < _; omega)]; exact q0, by rw [h.cell (p := ⟨w.heap.size, 1, none⟩) (by show w.heap.size < _; omega)]; exact q1⟩
  have HR : Hid (∀ w', Below W.heap.size W w' → w'.cell? ⟨w.heap.size + 1, 0, none⟩ = some (.int .i64 0) ∧ w'.cell? ⟨w.heap.size + 1, 1, none⟩ = some (.slice none 0 0) ∧ w'.frozen? ⟨w.heap.size + 1, 0, none⟩ = false ∧ w'.frozen? ⟨w.heap.size + 1, 1, none⟩ = false) := fun w' h => by
    have hp := hP.later h
    have v0 := hp.cell 0 _ rfl
    have v1 := hp.cell 1 _ rfl
    have z0 := hp.free 0
    have z1 := hp.free 1
    rw [hs1] at v0 v1 z0 z1
    exact ⟨v0, v1, z0, z1⟩
  have HS : Hid (∀ w', Below W.heap.size W w' → Strs w' a xs ∧ Nums w' b vs ∧ Nums w' c fr ∧ Nums w' d to) := fun w' h => ⟨(hl.below hb0).below h, (hvs.below hb0).below h, (hc.below hb0).below h, (hd.below hb0).below h⟩
  have HPUT : Hid (∀ w' x0 x1, Below W.heap.size W w' → Below w.heap.size w ((w'.setCell ⟨w.heap.size + 1, 0, none⟩ x0).setCell ⟨w.heap.size + 1, 1, none⟩ x1)) := fun w' x0 x1 h => ((hb0.trans (h.mono hb0.size)).setCell (p := ⟨w.heap.size + 1, 0, none⟩) (by show w.heap.size ≤ w.heap.size + 1; omega) _).setCell (p := ⟨w.heap.size + 1, 1, none⟩) (by show w.heap.size ≤ w.heap.size + 1; omega) _
  have HNO : Hid (fwB xs t vs fr to = false → ∀ w', Below w.heap.size w w' → FOut (fwT xs t vs fr to) (fwV xs t vs fr to).length (fwV xs t vs fr to) w (.returned (.agg #[.int .i64 0, .slice none 0 0])) w') := fun h w' hb => fw_no h hb
  have HOK : Hid (∀ w', w' = W → Calls _ _ _ w' _) := fun w' q => impl_objok w' a cap xs t b vcap vs hn hz (q ▸ hl.below hb0) (q ▸ hvs.below hb0) HV
  have HDE : Hid (fwB xs t vs fr to = (objOkB xs t vs && fwdOkB fr to)) := rfl
  have HS2 : Hid (W.heap.size = w.heap.size + 2) := hs2
  have HW0 : Hid (∀ w', Below W.heap.size W w' → W.heap.size ≤ w'.heap.size) := fun w' h => h.size
  obtain ⟨m0, m1⟩ := HK.out W (Below.refl _ _)
  clear hw1 hW hb1 hP hs1 hs2 hb0 q0 q1 hl hvs hc hd hz
  cases ho : objOkB xs t vs with
  | false =>
    rw [ho] at HOK HDE
    have HN2 : Hid (∀ w', Below w.heap.size w w' → _) := HNO.out HDE.out
    clear ho HDE
    go_enter Try.func46, Try.ntmps46
    go_wp2_with fail
    rw [← HW.out]
    refine (HOK.out W rfl).mono ?_
    rintro e w2 ⟨rfl, hb2⟩
    have HB2 : Hid (Below W.heap.size W w2) := hb2
    clear hb2 m0 m1
    obtain ⟨v0, v1, z0, z1⟩ := HR.out w2 HB2.out
    have HC2 : Hid (∀ x0 x1, _) := pair_set v0 v1
    go_wp2
    refine bodyPost_ret (v := .agg #[.int .i64 0, .slice none 0 0]) ?_ rfl (HN2.out _ (HPUT.out _ _ _ HB2.out))
    obtain ⟨q0, q1⟩ := HC2.out (.int .i64 0) (.slice none 0 0)
    simp [results, Try.results46, go_sem, q0, q1]
  | true =>
    obtain ⟨p, rfl, hpl, hp12, hkd, hty, hlen, h23, h1v⟩ := objOk_in ho
    rw [ho] at HOK HDE
    have HFO : Hid (∀ w', Below W.heap.size W w' → Calls _ _ _ w' _) := fun w' h => fwdOk_any w' c d cc cd fr to htn (HS.out w' h).2.2.2 HT
    cases hf : fwdOkB fr to with
    | false =>
      rw [hf] at HFO HDE
      have HN2 : Hid (∀ w', Below w.heap.size w w' → _) := HNO.out HDE.out
      clear ho HDE hf hlen hkd hty h23 h1v
      go_enter Try.func46, Try.ntmps46
      go_wp2_with fail
      rw [← HW.out]
      refine (HOK.out W rfl).mono ?_
      rintro e w2 ⟨rfl, hb2⟩
      have HB2 : Hid (Below W.heap.size W w2) := hb2
      clear hb2 m0 m1
      go_wp2_with fail
      refine (HFO.out w2 HB2.out).mono ?_
      rintro e w3 ⟨rfl, hb3⟩
      have HB3 : Hid (Below W.heap.size W w3) := HB2.out.trans (hb3.mono HB2.out.size)
      clear hb3
      obtain ⟨v0, v1, z0, z1⟩ := HR.out w3 HB3.out
      have HC2 : Hid (∀ x0 x1, _) := pair_set v0 v1
      go_wp2
      refine bodyPost_ret (v := .agg #[.int .i64 0, .slice none 0 0]) ?_ rfl (HN2.out _ (HPUT.out _ _ _ HB3.out))
      obtain ⟨q0, q1⟩ := HC2.out (.int .i64 0) (.slice none 0 0)
      simp [results, Try.results46, go_sem, q0, q1]
    | true =>
      rw [hf] at HFO HDE
      have hft : fr.length = to.length := by
        unfold fwdOkB at hf
        rw [Bool.and_eq_true] at hf
        have := hf.1
        simp at this
        omega
      have HYES : Hid (fwT xs (p : Int) vs fr to = (p : Int) ∧ fwV xs (p : Int) vs fr to = fwdL (fwd fr to) xs[p] vs vs.length) := by
        have h := HDE.out
        constructor
        · unfold fwT; rw [h]; rfl
        · unfold fwV; rw [h, hkd]; rfl
      have HRO : Hid (∀ w', Below W.heap.size W w' → Calls _ _ _ w' _) := fun w' h => refsOf_any w' a cap xs p b vcap vs hn (HS.out w' h).1 hpl hlen h23 (HS.out w' h).2.1
      have HLL : Hid ((refsL xs[p] vs vs.length).length ≤ 1048576) := by show (refsL xs[p] vs vs.length).length ≤ _; have := refsL_len xs[p] vs vs.length; omega
      have HFR : Hid (∀ (w' : World) (x : Option Addr) (y : Nat), Below W.heap.size W w' → Nums w' x (refsL xs[p] vs vs.length) → _) := fun w' x y h q => fwdRefs_any w' x c d y cc cd (refsL xs[p] vs vs.length) fr to HLL.out hfn hft q (HS.out w' h).2.2.1 (HS.out w' h).2.2.2
      have HWR : Hid (∀ (w' : World) (x : Option Addr) (y : Nat), Below W.heap.size W w' → Nums w' x ((refsL xs[p] vs vs.length).map (fwd fr to)) → _) := fun w' x y h q => withRefs_any w' a cap xs p b vcap vs (fwd fr to) x y (HS.out w' h).1 hpl hlen h23 h1v (HS.out w' h).2.1 q
      unfold FOut at HWR
      obtain ⟨M, hM⟩ : ∃ M, M = (refsL xs[p] vs vs.length).map (fwd fr to) := ⟨_, rfl⟩
      rw [← hM] at HFR HWR
      generalize refsL xs[p] vs vs.length = L at HRO HFR HLL hM
      clear ho HDE hf HNO hkd hty hlen HV HT hM
      go_enter Try.func46, Try.ntmps46
      go_wp2_with fail
      rw [← HW.out]
      refine (HOK.out W rfl).mono ?_
      rintro e w2 ⟨rfl, hb2⟩
      have HB2 : Hid (Below W.heap.size W w2) := hb2
      clear hb2 m0 m1 hft
      go_wp2_with fail
      refine (HFO.out w2 HB2.out).mono ?_
      rintro e w3 ⟨rfl, hb3⟩
      have HB3 : Hid (Below W.heap.size W w3.drew) := (HB2.out.trans (hb3.mono HB2.out.size)).drew
      clear hb3
      obtain ⟨m0, m1⟩ := HK.out w3.drew HB3.out
      go_wp2_with fail
      go_region_law ((first | (go_simp; go_at_call 71; refine (HRO.out w3.drew HB3.out).mono ?_; rintro e w4 ⟨v4, rfl, hown4, hb4⟩; obtain ⟨a4, g4, c4, rfl, hg4, hin4⟩ := ints_of_row hown4; have h4 : Below W.heap.size W w4 := HB3.out.trans (hb4.mono HB3.out.size); obtain ⟨n0, n1⟩ := HK.out w4 h4; clear hb4 hown4 hg4) | (go_simp; go_at_call 48; refine (HFR.out w4 a4 c4 h4 hin4.nums).mono ?_; rintro e w5 ⟨v5, rfl, hown5, hb5⟩; obtain ⟨a5, g5, c5, rfl, hg5, hin5⟩ := ints_of_row hown5; have h5 : Below W.heap.size W w5 := h4.trans (hb5.mono h4.size); obtain ⟨o0, o1⟩ := HK.out w5 h5; clear hb5 hown5 hg5) | (go_simp; go_at_call 81; refine (HWR.out w5 a5 c5 h5 hin5.nums).mono ?_; rintro e w6 ⟨a6, g6, c6, rfl, hg6, hin6, hb6⟩; have h6 : Below W.heap.size W w6 := h5.trans (hb6.mono h5.size); obtain ⟨v0, v1, z0, z1⟩ := HR.out w6 h6; clear hb6)))
      all_goals
        have HC2 : Hid (∀ x0 x1, _) := pair_set v0 v1
        have hgs : w.heap.size + 2 ≤ g6 := by have := HS2.out; have := HW0.out w5 h5; omega
        go_wp2
        refine bodyPost_ret (v := .agg #[.int .i64 (p : Int), .slice a6 vs.length c6]) ?_ rfl ?_
        · obtain ⟨q0, q1⟩ := HC2.out (.int .i64 (p : Int)) (.slice a6 vs.length c6)
          simp [results, Try.results46, go_sem, q0, q1]
        · rw [HYES.out.1, HYES.out.2, fwdL_len]
          refine ⟨a6, g6, c6, rfl, by omega, ?_, HPUT.out _ _ _ h6⟩
          exact (hin6.grown (grown_set _ _ _ _) (by omega)).grown (grown_set _ _ _ _) (by omega)
end Go.Proofs.Ytngpmohmnpbcnaa.obj
