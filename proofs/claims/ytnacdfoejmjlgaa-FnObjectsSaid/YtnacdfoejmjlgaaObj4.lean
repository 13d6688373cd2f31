/-
  Objects as bytes, by the specification; nothing that was there is written.
-/
import Derived.Test.YtnacdfoejmjlgaaObj3
namespace Go.Proofs.Ytnacdfoejmjlgaa.obj
open Go.RowKit
open kinds ints ref wb

set_option maxHeartbeats 4000000 in
theorem spec_objbytes (w : World) (a : Option Addr) (cap : Nat) (xs : List ByteArray) (t : Int) (b : Option Addr) (vcap : Nat) (vs : List Int) (hn : xs.length ≤ 1048576) (hz : ∀ i (hi : i < xs.length), xs[i].size ≤ 1048576) (hl : Strs w a xs) (hvs : Nums w b vs) (_hv : ∀ x ∈ vs, x < 9223372036854775808) :
    Calls Try.prog 11 #[.slice a xs.length cap, .agg #[.int .i64 t, .slice b vs.length vcap]] w fun e w' => e = .returned (.string (objStr xs t vs)) ∧ Below w.heap.size w w' := by
  obtain ⟨W, hW⟩ : ∃ W, W = w.alloc (.cells #[.int .i64 t, .slice b vs.length vcap] 27) := ⟨_, rfl⟩
  have HW : Hid (W = w.alloc (.cells #[.int .i64 t, .slice b vs.length vcap] 27)) := hW
  have hb0 : Below w.heap.size w W := by rw [hW]; exact (Below.refl _ _).alloc (Nat.le_refl _) _
  have HB0 : Hid (Below w.heap.size w W) := hb0
  have hsz : w.heap.size < W.heap.size := by rw [hW]; simp
  have HCS : Hid (∀ w', Below W.heap.size W w' → w'.cell? ⟨w.heap.size, 0, none⟩ = some (.int .i64 t) ∧ w'.cell? ⟨w.heap.size, 1, none⟩ = some (.slice b vs.length vcap)) := fun w' h =>
    ⟨by rw [h.cell (p := ⟨w.heap.size, 0, none⟩) hsz, hW, World.cell?_alloc_new]; rfl, by rw [h.cell (p := ⟨w.heap.size, 1, none⟩) hsz, hW, World.cell?_alloc_new]; rfl⟩
  have HOK : Hid (∀ w', w' = W → Calls _ _ _ w' _) := fun w' q => spec_objok w' a cap xs t b vcap vs hn hz (q ▸ hl.below hb0) (q ▸ hvs.below hb0)
  have HS : Hid (∀ w', Below W.heap.size W w' → Strs w' a xs ∧ Nums w' b vs) := fun w' h => ⟨(hl.below hb0).below h, (hvs.below hb0).below h⟩
  have HDE : Hid (objStr xs t vs = if objOkB xs t vs = true then wordsK t vs vs.length ++ nulls (padN (kd xs t)) else ⟨#[]⟩) := rfl
  generalize objStr xs t vs = res at HDE ⊢
  obtain ⟨m0, m1⟩ := HCS.out W (Below.refl _ _)
  clear hW hl hvs hb0 hz
  cases ho : objOkB xs t vs with
  | false =>
    rw [ho] at HOK HDE
    have HR : Hid (res = ⟨#[]⟩) := by show res = _; rw [HDE.out]; rfl
    clear ho HDE
    go_enter Try.func11, Try.ntmps11
    go_wp2_with fail
    rw [← HW.out]
    refine (HOK.out W rfl).mono ?_
    rintro e w2 ⟨rfl, hb2⟩
    have HB2 : Hid (Below w.heap.size w w2) := HB0.out.trans (hb2.mono HB0.out.size)
    clear hb2
    go_wp2
    go_ret
    exact ⟨by rw [HR.out]; rfl, HB2.out⟩
  | true =>
    obtain ⟨p, rfl, hpl, hp12, hkd, hty, hlen, h23, h1v⟩ := objOk_in ho
    rw [ho] at HOK HDE
    rw [if_pos rfl, hkd] at HDE
    have HRU : Hid (∀ w', Calls _ _ _ w' _) := fun w' => spec_run xs[p] w' (by omega)
    have hru : runOf xs[p] = (((xs[p].size + 8) / 8 : Nat) : Int) := by unfold runOf; rw [if_pos hty]; omega
    rw [hru] at HRU
    obtain ⟨n, hvn⟩ : ∃ n, n = vs.length := ⟨_, rfl⟩
    have HVN : Hid (n = vs.length) := hvn
    have HPD : Hid (padN xs[p] = 64 * ((n + 8) / 8) - (8 + 8 * n)) := by show padN xs[p] = _; unfold padN; rw [← hlen, hvn]
    rw [← hlen, ← hvn] at HRU
    rw [← hvn] at HDE h23 h1v
    rw [HPD.out] at HDE
    obtain ⟨pd, hpd⟩ : ∃ pd, pd = 64 * ((n + 8) / 8) - (8 + 8 * n) := ⟨_, rfl⟩
    rw [← hpd] at HDE
    have hpd2 : ((64 * ((n + 8) / 8) : Nat) : Int) - ((8 + 8 * n : Nat) : Int) = (pd : Int) := by omega
    have hpd3 : pd ≤ 1048576 := by omega
    have HW0 : Hid (∀ w, Calls _ _ _ w _) := fun w => spec_word ((p : Int) + 1) w
    change Hid (∀ w, Calls Try.prog 36 #[.int .i64 ((p : Int) + 1)] w fun e w' => e = .returned (.string (wordS ((p : Int) + 1))) ∧ Below w.heap.size w w') at HW0
    have HK0 : Hid (wordsK (p : Int) vs 0 = wordS ((p : Int) + 1)) := rfl
    have HKZ : Hid (∀ k, (wordsK (p : Int) vs k).size = 8 + 8 * k) := wordsK_size _ _
    have HST : Hid (∀ w', Below W.heap.size W w' → ∃ b2 off : Nat, a = some ⟨b2, off, none⟩ ∧ w'.cell? ⟨b2, off + p, none⟩ = some (.string xs[p])) := fun w' h => (HS.out w' h).1 p hpl
    have hpi : (p : Int) < (xs.length : Int) := by omega
    have hp0 : (0 : Int) ≤ (p : Int) := by omega
    have HZE : Hid (∀ w, Calls _ _ _ w _) := zeros_any pd hpd3
    have HNZ : Hid ((nulls pd).size = pd) := nulls_size pd
    generalize xs[p] = s at HRU HST
    rw [← hvn] at m1 HCS
    rw [← hvn] at HW HOK ⊢
    clear ho hkd hty hlen hvn hpd hru HPD
    go_enter Try.func11, Try.ntmps11
    go_wp2_with fail
    rw [← HW.out]
    refine (HOK.out W rfl).mono ?_
    rintro e w2 ⟨rfl, hb2⟩
    have HB2 : Hid (Below W.heap.size W w2) := hb2
    clear m0 m1 hb2
    obtain ⟨m0, m1⟩ := HCS.out w2 HB2.out
    go_wp2_with fail
    refine (HW0.out _).mono ?_
    rintro e w3 ⟨rfl, hb3⟩
    have HB3 : Hid (Below W.heap.size W w3) := HB2.out.trans (hb3.mono HB2.out.size)
    clear m0 m1 hb3
    obtain ⟨m0, m1⟩ := HCS.out w3 HB3.out
    go_wp2
    clear m0 m1
    go_loopw [5, 6] (fun t i wr => ∃ k : Nat, k ≤ n ∧ i = .int .i64 (k : Int) ∧ t = .string (wordsK (p : Int) vs k) ∧ Below W.heap.size W wr) (fun _ i _ => n - (intOf i).toNat)
    case atStart => exact ⟨0, Nat.zero_le _, rfl, by rw [HK0.out], HB3.out⟩
    case round =>
      obtain ⟨k, hk, rfl, rfl, hb⟩ := hrel
      have HB : Hid (Below W.heap.size W wr) := hb
      clear hb
      have hkz := HKZ.out k
      by_cases hlt : k < n
      · have hlti : (k : Int) < (n : Int) := by omega
        obtain ⟨b3, o3, rfl, c1⟩ := (HS.out wr HB.out).2 k (by have := HVN.out; omega)
        rw [show vs[k]'(by have := HVN.out; omega) = vs.getD k 0 by rw [List.getD_eq_getElem?_getD, List.getElem?_eq_getElem (by have := HVN.out; omega)]; rfl] at c1
        have HWK : Hid (∀ w, Calls _ _ _ w _) := fun w => spec_word (vs.getD k 0) w
        change Hid (∀ w, Calls Try.prog 36 #[.int .i64 (vs.getD k 0)] w fun e w' => e = .returned (.string (wordS (vs.getD k 0))) ∧ Below w.heap.size w w') at HWK
        have HKS : Hid (wordsK (p : Int) vs (k + 1) = wordsK (p : Int) vs k ++ wordS (vs.getD k 0)) := rfl
        have hws := wordS_size (vs.getD k 0)
        obtain ⟨m0, m1⟩ := HCS.out wr HB.out
        generalize vs.getD k 0 = y at c1 HWK HKS hws
        generalize wordS y = ws at HWK HKS hws
        generalize wordsK (p : Int) vs k = wk at HKS hkz ⊢
        go_wp2_with fail
        refine (HWK.out _).mono ?_
        rintro e w4 ⟨rfl, hb4⟩
        have HB4 : Hid (Below W.heap.size W w4) := HB.out.trans (hb4.mono HB.out.size)
        clear hb4 c1 m0 m1
        go_wp2
        go_roundw
        case rel => exact ⟨k + 1, by omega, by go_num, by rw [HKS.out], HB4.out⟩
        case measure => simp [intOf]; omega
      · obtain rfl : k = n := by omega
        obtain ⟨m0, m1⟩ := HCS.out wr HB.out
        obtain ⟨b2, off, rfl, c0⟩ := HST.out wr HB.out
        have HR : Hid (res = wordsK (p : Int) vs k ++ nulls pd) := HDE.out
        have hnz : (nulls pd).size = pd := HNZ.out
        generalize wordsK (p : Int) vs k = wk at HR hkz ⊢
        generalize nulls pd = zs at HR hnz HZE
        obtain ⟨rn, hrn⟩ : ∃ rn, rn = (k + 8) / 8 := ⟨_, rfl⟩
        obtain ⟨z, hzz⟩ : ∃ z, z = 8 + 8 * k := ⟨_, rfl⟩
        rw [← hrn] at HRU hpd2
        rw [← hzz] at hkz hpd2
        have hr4 : rn ≤ 4 := by omega
        have hz4 : z ≤ 200 := by omega
        have hpd4 : 64 * (rn : Int) - (z : Int) = (pd : Int) := by omega
        clear hrn hzz hpd2 h23 h1v hp12
        go_wp2_with fail
        refine (HRU.out _).mono ?_
        rintro e w4 ⟨rfl, rfl⟩
        go_wp2_with fail
        refine (HZE.out _).mono ?_
        rintro e w5 ⟨rfl, hb5⟩
        have HB5 : Hid (Below w.heap.size w w5) := HB0.out.trans ((HB.out.trans (hb5.mono HB.out.size)).mono HB0.out.size)
        clear hb5 m0 m1 c0
        go_wp2
        go_ret
        exact ⟨by rw [HR.out]; rfl, HB5.out⟩
end Go.Proofs.Ytnacdfoejmjlgaa.obj
