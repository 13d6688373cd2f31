/-
  Objects as bytes, by the program and by the specification; nothing that was there is written.
-/
import Derived.Test.YtnacdfoejmjlgaaObj2
import Derived.Test.YtnacdfoejmjlgaaWb
import Derived.Test.YtnacdfoejmjlgaaZeros
namespace Go.Proofs.Ytnacdfoejmjlgaa.obj
open Go.RowKit
open kinds ints ref wb

def wordS (n : Int) : ByteArray := wordStr (IntKind.u64.wrap n)
theorem wordS_size (n : Int) : (wordS n).size = 8 := rfl
def wordsK (t : Int) (vs : List Int) : Nat → ByteArray
  | 0 => wordS (t + 1)
  | k + 1 => wordsK t vs k ++ wordS (vs.getD k 0)
theorem wordsK_size (t : Int) (vs : List Int) (k : Nat) : (wordsK t vs k).size = 8 + 8 * k := by
  induction k with
  | zero => rfl
  | succ k ih => rw [wordsK, ByteArray.size_append, ih, wordS_size]; omega
def padN (s : ByteArray) : Nat := 64 * ((s.size + 8) / 8) - (8 + 8 * s.size)
def nulls (n : Nat) : ByteArray := strOfNums (List.replicate n 0)
theorem nulls_size (n : Nat) : (nulls n).size = n := by unfold nulls; rw [strOfNums_size]; simp
def objStr (xs : List ByteArray) (t : Int) (vs : List Int) : ByteArray := if objOkB xs t vs = true then wordsK t vs vs.length ++ nulls (padN (kd xs t)) else ⟨#[]⟩
theorem zeros_any (n : Nat) (h : n ≤ 1048576) (w : World) : Calls Try.prog 28 #[.int .i64 (n : Int)] w fun e w' => e = .returned (.string (nulls n)) ∧ Below w.heap.size w w' := by
  have hmk := zeros.make_zero n h
  have hcv := zeros.conv_zero n
  have HN : Hid (nulls n = strOfNums (List.replicate n 0)) := rfl
  generalize nulls n = z at HN ⊢
  go_enter Try.func28, Try.ntmps28
  go_wp2
  go_ret
  exact ⟨by rw [HN.out]; rfl, (Below.refl _ _).alloc (Nat.le_refl _) _⟩
/-- What is known of an object that is right. -/
theorem objOk_in {xs : List ByteArray} {t : Int} {vs : List Int} (h : objOkB xs t vs = true) : ∃ p : Nat, t = (p : Int) ∧ ∃ hp : p < xs.length, p < 12 ∧ kd xs t = xs[p] ∧ isType xs[p] = true ∧ vs.length = xs[p].size ∧ vs.length ≤ 23 ∧ 1 ≤ vs.length := by
  unfold objOkB at h
  rw [Bool.and_eq_true, Bool.and_eq_true] at h
  obtain ⟨⟨h1, h2⟩, _⟩ := h
  unfold fitsB at h2
  rw [Bool.and_eq_true] at h2
  obtain ⟨p, rfl, hpl⟩ := placeB_nat h2.1
  have hk := kd_at p hpl
  have hty : isType xs[p] = true := by
    unfold typesOk at h1
    rw [Bool.and_eq_true, List.all_eq_true] at h1
    exact h1.2 _ (List.getElem_mem hpl)
  have h12 : xs.length ≤ 12 := by
    unfold typesOk at h1
    rw [Bool.and_eq_true, Bool.and_eq_true] at h1
    exact of_decide_eq_true h1.1.2
  have hl : vs.length = xs[p].size := by
    have := h2.2
    rw [hk] at this
    simp at this
    omega
  have := isType_size hty
  exact ⟨p, rfl, hpl, by omega, hk, hty, hl, by omega, by omega⟩
set_option maxHeartbeats 4000000 in
theorem impl_objbytes (w : World) (a : Option Addr) (cap : Nat) (xs : List ByteArray) (t : Int) (b : Option Addr) (vcap : Nat) (vs : List Int) (hn : xs.length ≤ 1048576) (hz : ∀ i (hi : i < xs.length), xs[i].size ≤ 1048576) (hl : Strs w a xs) (hvs : Nums w b vs) (hv : ∀ x ∈ vs, x < 9223372036854775808) :
    Calls Try.prog 7 #[.slice a xs.length cap, .agg #[.int .i64 t, .slice b vs.length vcap]] w fun e w' => e = .returned (.string (objStr xs t vs)) ∧ Below w.heap.size w w' := by
  obtain ⟨W, hW⟩ : ∃ W, W = w.alloc (.cells #[.int .i64 t, .slice b vs.length vcap] 27) := ⟨_, rfl⟩
  have HW : Hid (W = w.alloc (.cells #[.int .i64 t, .slice b vs.length vcap] 27)) := hW
  have hb0 : Below w.heap.size w W := by rw [hW]; exact (Below.refl _ _).alloc (Nat.le_refl _) _
  have HB0 : Hid (Below w.heap.size w W) := hb0
  have hsz : w.heap.size < W.heap.size := by rw [hW]; simp
  have HCS : Hid (∀ w', Below W.heap.size W w' → w'.cell? ⟨w.heap.size, 0, none⟩ = some (.int .i64 t) ∧ w'.cell? ⟨w.heap.size, 1, none⟩ = some (.slice b vs.length vcap)) := fun w' h =>
    ⟨by rw [h.cell (p := ⟨w.heap.size, 0, none⟩) hsz, hW, World.cell?_alloc_new]; rfl, by rw [h.cell (p := ⟨w.heap.size, 1, none⟩) hsz, hW, World.cell?_alloc_new]; rfl⟩
  have HOK : Hid (∀ w', w' = W → Calls _ _ _ w' _) := fun w' q => impl_objok w' a cap xs t b vcap vs hn hz (q ▸ hl.below hb0) (q ▸ hvs.below hb0) hv
  have HS : Hid (∀ w', Below W.heap.size W w' → Strs w' a xs ∧ Nums w' b vs) := fun w' h => ⟨(hl.below hb0).below h, (hvs.below hb0).below h⟩
  have HDE : Hid (objStr xs t vs = if objOkB xs t vs = true then wordsK t vs vs.length ++ nulls (padN (kd xs t)) else ⟨#[]⟩) := rfl
  generalize objStr xs t vs = res at HDE ⊢
  obtain ⟨m0, m1⟩ := HCS.out W (Below.refl _ _)
  clear hW hl hvs hv hb0 hz
  cases ho : objOkB xs t vs with
  | false =>
    rw [ho] at HOK HDE
    have HR : Hid (res = ⟨#[]⟩) := by show res = _; rw [HDE.out]; rfl
    clear ho HDE
    go_enter Try.func7, Try.ntmps7
    go_wp2_with fail
    rw [← HW.out]
    refine (HOK.out W rfl).mono ?_
    rintro e w2 ⟨rfl, hb2⟩
    have HB2 : Hid (Below w.heap.size w w2) := HB0.out.trans (hb2.mono HB0.out.size)
    clear hb2
    go_wp2
    go_ret
    exact ⟨by rw [HR.out]; rfl, HB2.out⟩
  | true =>
    obtain ⟨p, rfl, hpl, hp12, hkd, hty, hlen, h23, h1v⟩ := objOk_in ho
    rw [ho] at HOK HDE
    rw [if_pos rfl, hkd] at HDE
    have HRU : Hid (∀ w', Calls _ _ _ w' _) := fun w' => impl_run xs[p] w' (by omega)
    have hru : runOf xs[p] = (((xs[p].size + 8) / 8 : Nat) : Int) := by unfold runOf; rw [if_pos hty]; omega
    rw [hru] at HRU
    obtain ⟨n, hvn⟩ : ∃ n, n = vs.length := ⟨_, rfl⟩
    have HVN : Hid (n = vs.length) := hvn
    have HPD : Hid (padN xs[p] = 64 * ((n + 8) / 8) - (8 + 8 * n)) := by show padN xs[p] = _; unfold padN; rw [← hlen, hvn]
    rw [← hlen, ← hvn] at HRU
    rw [← hvn] at HDE h23 h1v
    rw [HPD.out] at HDE
    obtain ⟨pd, hpd⟩ : ∃ pd, pd = 64 * ((n + 8) / 8) - (8 + 8 * n) := ⟨_, rfl⟩
    rw [← hpd] at HDE
    have hpd2 : ((64 * ((n + 8) / 8) : Nat) : Int) - ((8 + 8 * n : Nat) : Int) = (pd : Int) := by omega
    have hpd3 : pd ≤ 1048576 := by omega
    have HW0 : Hid (∀ w, Calls _ _ _ w _) := fun w => impl_word ((p : Int) + 1) w
    change Hid (∀ w, Calls Try.prog 21 #[.int .i64 ((p : Int) + 1)] w fun e w' => e = .returned (.string (wordS ((p : Int) + 1))) ∧ Below w.heap.size w w') at HW0
    have HK0 : Hid (wordsK (p : Int) vs 0 = wordS ((p : Int) + 1)) := rfl
    have HKZ : Hid (∀ k, (wordsK (p : Int) vs k).size = 8 + 8 * k) := wordsK_size _ _
    have HST : Hid (∀ w', Below W.heap.size W w' → ∃ b2 off : Nat, a = some ⟨b2, off, none⟩ ∧ w'.cell? ⟨b2, off + p, none⟩ = some (.string xs[p])) := fun w' h => (HS.out w' h).1 p hpl
    have hpi : (p : Int) < (xs.length : Int) := by omega
    have hp0 : (0 : Int) ≤ (p : Int) := by omega
    have hmk := zeros.make_zero pd hpd3
    have hcv := zeros.conv_zero pd
    have HNL : Hid (nulls pd = strOfNums (List.replicate pd 0)) := rfl
    have HNZ : Hid ((nulls pd).size = pd) := nulls_size pd
    generalize xs[p] = s at HRU HST
    rw [← hvn] at m1 HCS
    rw [← hvn] at HW HOK ⊢
    clear ho hkd hty hlen hvn hpd hru HPD
    go_enter Try.func7, Try.ntmps7
    go_wp2_with fail
    rw [← HW.out]
    refine (HOK.out W rfl).mono ?_
    rintro e w2 ⟨rfl, hb2⟩
    have HB2 : Hid (Below W.heap.size W w2) := hb2
    clear m0 m1 hb2
    obtain ⟨m0, m1⟩ := HCS.out w2 HB2.out
    go_wp2_with fail
    refine (HW0.out _).mono ?_
    rintro e w3 ⟨rfl, hb3⟩
    have HB3 : Hid (Below W.heap.size W w3) := HB2.out.trans (hb3.mono HB2.out.size)
    clear m0 m1 hb3
    obtain ⟨m0, m1⟩ := HCS.out w3 HB3.out
    go_wp2
    clear m0 m1
    go_loopw [5, 19] (fun t i wr => ∃ k : Nat, k ≤ n ∧ i = .int .i64 (k : Int) ∧ t = .string (wordsK (p : Int) vs k) ∧ Below W.heap.size W wr) (fun _ i _ => n - (intOf i).toNat)
    case atStart => exact ⟨0, Nat.zero_le _, rfl, by rw [HK0.out], HB3.out⟩
    case round =>
      obtain ⟨k, hk, rfl, rfl, hb⟩ := hrel
      have HB : Hid (Below W.heap.size W wr) := hb
      clear hb
      have hkz := HKZ.out k
      by_cases hlt : k < n
      · have hlti : (k : Int) < (n : Int) := by omega
        obtain ⟨b3, o3, rfl, c1⟩ := (HS.out wr HB.out).2 k (by have := HVN.out; omega)
        rw [show vs[k]'(by have := HVN.out; omega) = vs.getD k 0 by rw [List.getD_eq_getElem?_getD, List.getElem?_eq_getElem (by have := HVN.out; omega)]; rfl] at c1
        have HWK : Hid (∀ w, Calls _ _ _ w _) := fun w => impl_word (vs.getD k 0) w
        change Hid (∀ w, Calls Try.prog 21 #[.int .i64 (vs.getD k 0)] w fun e w' => e = .returned (.string (wordS (vs.getD k 0))) ∧ Below w.heap.size w w') at HWK
        have HKS : Hid (wordsK (p : Int) vs (k + 1) = wordsK (p : Int) vs k ++ wordS (vs.getD k 0)) := rfl
        have hws := wordS_size (vs.getD k 0)
        generalize vs.getD k 0 = y at c1 HWK HKS hws
        generalize wordS y = ws at HWK HKS hws
        generalize wordsK (p : Int) vs k = wk at HKS hkz ⊢
        clear hmk hcv
        go_wp2_with fail
        refine (HWK.out _).mono ?_
        rintro e w4 ⟨rfl, hb4⟩
        have HB4 : Hid (Below W.heap.size W w4) := HB.out.trans (hb4.mono HB.out.size)
        clear hb4 c1
        go_wp2
        go_roundw
        case rel => exact ⟨k + 1, by omega, by go_num, by rw [HKS.out], HB4.out⟩
        case measure => simp [intOf]; omega
      · obtain rfl : k = n := by omega
        obtain ⟨m0, m1⟩ := HCS.out wr HB.out
        obtain ⟨b2, off, rfl, c0⟩ := HST.out wr HB.out
        have HR : Hid (res = wordsK (p : Int) vs k ++ strOfNums (List.replicate pd 0)) := by rw [HNL.out] at HDE; exact HDE.out
        have hnz : (strOfNums (List.replicate pd 0)).size = pd := by rw [← HNL.out]; exact HNZ.out
        generalize wordsK (p : Int) vs k = wk at HR hkz ⊢
        generalize strOfNums (List.replicate pd 0) = zs at HR hnz hcv
        obtain ⟨rn, hrn⟩ : ∃ rn, rn = (k + 8) / 8 := ⟨_, rfl⟩
        obtain ⟨z, hzz⟩ : ∃ z, z = 8 + 8 * k := ⟨_, rfl⟩
        rw [← hrn] at HRU hpd2
        rw [← hzz] at hkz hpd2
        have hr4 : rn ≤ 4 := by omega
        have hz4 : z ≤ 200 := by omega
        have hpd4 : (rn : Int) * 64 - (z : Int) = (pd : Int) := by omega
        have HBE : Hid (∀ T, Below w.heap.size w (wr.alloc (.cells (madeCells #[Value.int .u8 0] pd) T))) := fun T => HB0.out.trans ((HB.out.alloc HB.out.size _).mono HB0.out.size)
        clear hrn hzz hpd2 h23 h1v hp12
        go_wp2_with fail
        refine (HRU.out _).mono ?_
        rintro e w4 ⟨rfl, rfl⟩
        go_wp2
        go_ret
        exact ⟨by rw [HR.out]; rfl, HBE.out _⟩
end Go.Proofs.Ytnacdfoejmjlgaa.obj
