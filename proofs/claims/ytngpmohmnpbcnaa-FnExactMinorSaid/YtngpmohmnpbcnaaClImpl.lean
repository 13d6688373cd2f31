/-
  What is reached in a nursery, by the program.
-/
import Derived.Test.YtngpmohmnpbcnaaClWork
import Derived.Test.YtngpmohmnpbcnaaClRefs
import Derived.Test.YtngpmohmnpbcnaaClSpec2
namespace Go.Proofs.Ytngpmohmnpbcnaa.cl
open Go.RowKit
open kinds ints ref obj nu

def natsOf (P : List Int) : List Nat := P.map Int.toNat
theorem nums_nats {P : List Int} (h : ∀ p ∈ P, 0 ≤ p) : numsOf (natsOf P) = P := by
  unfold numsOf natsOf
  rw [List.map_map]
  conv => rhs; rw [← List.map_id P]
  exact List.map_congr_left fun p hp => Int.toNat_of_nonneg (h p hp)
theorem refs_nats {P : List Int} (h : ∀ p ∈ P, 0 ≤ p) : refsOfN (natsOf P) = P.map odd := by
  unfold refsOfN natsOf
  rw [List.map_map]
  exact List.map_congr_left fun p hp => by
    show 2 * ((p.toNat : Nat) : Int) + 1 = odd p
    rw [Int.toNat_of_nonneg (h p hp)]; rfl
theorem nats_len (P : List Int) : (natsOf P).length = P.length := by unfold natsOf; simp
set_option maxHeartbeats 2000000 in
set_option maxRecDepth 20000 in
theorem reachedFrom_any (w : World) (ta : Option Addr) (tc : Nat) (S m : Value) (B : Nat) (xs : List ByteArray) (ws : List Int) (L : List Nat) (ra : Option Addr) (rc : Nat) (roots : List Int) (hst : Strs w ta xs) (hlk : Looks w B m xs ws L) (hgood : ∀ x ∈ L, stepN xs ws x ≠ 0) (hxn : xs.length ≤ 1048576) (h23 : ∀ i (hi : i < xs.length), 1 ≤ xs[i].size ∧ xs[i].size ≤ 23) (hh : ∀ x ∈ ws, x < 9223372036854775808) (hrt : Nums w ra roots) (hr4 : roots.length ≤ 400) (hrb : ∀ x ∈ roots, x < 9223372036854775808) (hnames : namesB xs ws L L = true) (hnm : allNamedB L roots = true) (hL4 : L.length ≤ 400) :
    Calls Try.prog 42 #[.agg #[.slice ta xs.length tc, S, m], .slice ra roots.length rc] w fun e w' => ∃ a2 g c, e = .returned (.slice a2 (clP xs ws L.length roots).length c) ∧ w.heap.size ≤ g ∧ Ints w' a2 g (clP xs ws L.length roots) ∧ Below w.heap.size w w' := by
  obtain ⟨W, hW⟩ : ∃ W, W = w.alloc (.cells #[.slice ta xs.length tc, S, m] 60) := ⟨_, rfl⟩
  have HW : Hid (W = w.alloc (.cells #[.slice ta xs.length tc, S, m] 60)) := hW
  have hb0 : Below w.heap.size w W := by rw [hW]; exact (Below.refl _ _).alloc (Nat.le_refl _) _
  have hT : Tri w.heap.size (.slice ta xs.length tc) S m W := by rw [hW]; exact Tri.start w _ _ _ _
  have hsz : W.heap.size = w.heap.size + 1 := by rw [hW]; simp
  have HB0 : Hid (Below w.heap.size w W) := hb0
  have HYA : Hid (Calls _ _ _ W _) := youngAmong_any W ra roots.length rc roots rfl (by omega) (hrt.below hb0) hrb
  have HCL : Hid (∀ p, GoodP L p → ∀ w', Below W.heap.size W w' → Calls _ _ _ w' _) := fun p hp w' h => clo_any w' w.heap.size ta tc m B xs ws L p (by rw [h.cell (p := ⟨w.heap.size, 0, none⟩) (by show w.heap.size < _; omega)]; exact hT.c0) (by rw [h.cell (p := ⟨w.heap.size, 2, none⟩) (by show w.heap.size < _; omega)]; exact hT.c2) ((hst.below hb0).below h) ((hlk.below hb0).below h) hp hgood hxn h23 hh
  have HWO : Hid (∀ (V : World) (fa : Option Addr) (fg fc : Nat), Below W.heap.size W V → Ints V fa fg (halves roots) → Calls _ _ _ V _) := fun V fa fg fc hV hf => worked_any V w.heap.size fa fg fc (halves roots) (nmP xs ws) L hL4 hf (by have := halves_len roots; omega) (halves_good hnm) (fun p hp => nmP_good hnames hp) (fun p hp => by
    have h1 : (nmP xs ws p).length ≤ (refsA xs ws p.toNat).length := halves_len _
    unfold refsA at h1
    have h2 := refsL_len (kdH xs (ws.getD p.toNat 0)) (valsA xs ws p.toNat) (valsA xs ws p.toNat).length
    have hgd := hgood _ hp.2.2
    obtain ⟨hh0, hpb, _, _⟩ := stepN_le hgd
    obtain ⟨q, hpe, hpl⟩ := placeB_nat hpb
    have h3 := valsA_len hgd
    rw [kdH_at hpl hpe] at h3
    have := (h23 q hpl).2
    omega) (fun p hp w' h => HCL.out p hp w' (hV.trans (h.mono hV.size)))
  have HCE : Hid (clP xs ws L.length roots = closN (nmP xs ws) L.length (halves roots)) := rfl
  rw [HCE.out]
  generalize closN (nmP xs ws) L.length (halves roots) = R at HWO
  generalize halves roots = F at HYA HWO
  clear hW hb0 hT hsz hst hlk hgood h23 hh hrt hr4 hrb hnames hnm hxn
  generalize roots.length = rl at HYA
  generalize xs.length = xl at HW
  go_enter Try.func42, Try.ntmps42
  go_wp2_with (rw [← HW.out])
  refine HYA.out.mono ?_
  rintro e w2 ⟨a2, g2, c2, rfl, hg2, hi2, hb2⟩
  have HB2 : Hid (Below w.heap.size w w2) := HB0.out.trans (hb2.mono HB0.out.size)
  have HW2 : Hid (Calls _ _ _ w2 _) := HWO.out w2 a2 g2 c2 hb2 hi2
  generalize F.length = fl at HW2
  clear hg2 hi2 hb2
  go_wp2_with fail
  refine HW2.out.mono ?_
  rintro e w3 ⟨a3, g3, c3, rfl, hg3, hi3, hb3⟩
  have HI3 : Hid (Ints w3 a3 g3 R) := hi3
  have HG3 : Hid (w.heap.size ≤ g3) := by have := HB2.out.size; show w.heap.size ≤ g3; omega
  have HB3 : Hid (Below w.heap.size w w3) := HB2.out.trans (hb3.mono HB2.out.size)
  clear hg3 hi3 hb3
  go_wp2
  go_ret
  exact ⟨a3, g3, c3, rfl, HG3.out, HI3.out, HB3.out⟩
set_option maxHeartbeats 1000000 in
theorem rootsOk_any (w : World) (T S m : Value) (B : Nat) (xs : List ByteArray) (ws : List Int) (L : List Nat) (ra : Option Addr) (rc : Nat) (roots : List Int) (hrn : roots.length ≤ 1048576) (hrt : Nums w ra roots) (hrb : ∀ x ∈ roots, x < 9223372036854775808) (hlk : Looks w B m xs ws L) :
    Calls Try.prog 40 #[.agg #[T, S, m], .slice ra roots.length rc] w fun e w' => e = .returned (.bool (decide ((roots.length : Int) ≤ 400) && allNamedB L roots)) ∧ Below w.heap.size w w' := by
  obtain ⟨W, hW⟩ : ∃ W, W = w.alloc (.cells #[T, S, m] 60) := ⟨_, rfl⟩
  have HW : Hid (W = w.alloc (.cells #[T, S, m] 60)) := hW
  have hb0 : Below w.heap.size w W := by rw [hW]; exact (Below.refl _ _).alloc (Nat.le_refl _) _
  have hT : Tri w.heap.size T S m W := by rw [hW]; exact Tri.start w _ _ _ _
  have HB0 : Hid (Below w.heap.size w W) := hb0
  have HAN : Hid (Calls _ _ _ W _) := allNamed_any W T S m B xs ws L ra roots.length rc roots rfl hrn (hrt.below hb0) hrb (hlk.below hb0)
  obtain ⟨t0, t1, t2, _⟩ := hT
  clear hW hb0 hrt hrb hlk
  generalize allNamedB L roots = bb at HAN ⊢
  generalize roots.length = n at HAN ⊢
  by_cases h : (n : Int) ≤ 400
  · rw [decide_eq_true h]
    go_enter Try.func40, Try.ntmps40
    go_wp2_with (rw [← HW.out])
    refine HAN.out.mono ?_
    rintro e w2 ⟨rfl, hb2⟩
    have HB2 : Hid (Below w.heap.size w w2) := HB0.out.trans (hb2.mono HB0.out.size)
    clear hb2 t0 t1 t2
    go_wp2
    go_ret
    exact ⟨by simp, HB2.out⟩
  · rw [decide_eq_false h]
    go_enter Try.func40, Try.ntmps40
    go_wp2_with (rw [← HW.out])
    go_ret
    exact ⟨rfl, HB0.out⟩
set_option maxHeartbeats 2000000 in
set_option maxRecDepth 20000 in
theorem impl_yclos (w : World) (a : Option Addr) (cap : Nat) (xs : List ByteArray) (z : Int) (a2 : Option Addr) (n vcap : Nat) (ws : List Int) (ra : Option Addr) (rc : Nat) (roots : List Int) (hx : ws.length = n) (hxn : xs.length ≤ 1048576) (hl : Strs w a xs) (hz : ∀ i (hi : i < xs.length), xs[i].size ≤ 1048576) (hn : n ≤ 1048576) (hcap : n ≤ vcap) (hv : Nums w a2 ws) (hh : ∀ x ∈ ws, x < 9223372036854775808) (hrt : Nums w ra roots) (hrn : roots.length ≤ 1048576) (hrb : ∀ x ∈ roots, x < 9223372036854775808) :
    Calls Try.prog 14 #[.slice a xs.length cap, .agg #[.int .i64 z, .slice a2 n vcap], .slice ra roots.length rc] w fun e w' => AOut (fun s => .tuple #[s, .bool (rootsB xs z ws roots)]) (clL xs z ws roots) w e w' := by
  obtain ⟨W, hW⟩ : ∃ W, W = w.alloc (.cells #[.int .i64 z, .slice a2 n vcap] 31) := ⟨_, rfl⟩
  have HW : Hid (W = w.alloc (.cells #[.int .i64 z, .slice a2 n vcap] 31)) := hW
  obtain ⟨hb0, hsz, c0, c1⟩ := box2 w z a2 n vcap W hW
  have HB0 : Hid (Below w.heap.size w W) := hb0
  have HOP : Hid (Calls _ _ _ W _) := opened_any W a cap xs z a2 n vcap ws hx hxn (hl.below hb0) hz hn hcap (hv.below hb0) hh
  have HRN : Hid (∀ w', Below W.heap.size W w' → Nums w' ra roots) := fun w' h => (hrt.below hb0).below h
  have HRB : Hid (∀ x ∈ roots, x < 9223372036854775808) := hrb
  have HRL : Hid (roots.length ≤ 1048576) := hrn
  have HXN : Hid (xs.length ≤ 1048576) := hxn
  have HHH : Hid (∀ x ∈ ws, x < 9223372036854775808) := hh
  have HXL : Hid (ws.length = n) := hx
  have HRD : Hid (rootsB xs z ws roots = (nurB xs z ws && (decide ((roots.length : Int) ≤ 400) && allNamedB (startsN xs z ws) roots))) := rfl
  have HLD : Hid (clL xs z ws roots = if rootsB xs z ws roots = true then clR xs ws (startsN xs z ws).length roots else []) := rfl
  have HPF : Hid (nurB xs z ws = true → typesOk xs = true ∧ (startsN xs z ws).length ≤ 400 ∧ namesB xs ws (startsN xs z ws) (startsN xs z ws) = true) := fun h => by
    obtain ⟨h1, _, h3⟩ := nurB_found h
    obtain ⟨q1, _, q3, q4⟩ := preN_facts h1
    have := starts_len xs z ws
    exact ⟨q1, by omega, h3⟩
  unfold OpenAns at HOP
  generalize rootsB xs z ws roots = res at HRD HLD ⊢
  generalize clL xs z ws roots = R at HLD ⊢
  clear hW hl hv hrt hb0 hx hxn hh hz hsz hrb
  go_enter Try.func14, Try.ntmps14
  go_wp2_with (rw [← HW.out])
  refine HOP.out.mono ?_
  rintro e w2 ⟨hb2, ta, tn, tc, sa, sc, mo, rfl, _, hlk, hgood, _, hyes⟩
  obtain ⟨Y, hY⟩ : ∃ Y, Y = w2.alloc (.cells #[.slice ta tn tc, .slice sa (startsN xs z ws).length sc, .map mo] 60) := ⟨_, rfl⟩
  obtain ⟨yb, hyb⟩ : ∃ yb, yb = w2.heap.size := ⟨_, rfl⟩
  have HY : Hid (Y = w2.alloc (.cells #[.slice ta tn tc, .slice sa (startsN xs z ws).length sc, .map mo] 60)) := hY
  have HYB : Hid (yb = w2.heap.size) := hyb
  have hbY : Below w2.heap.size w2 Y := by rw [hY]; exact (Below.refl _ _).alloc (Nat.le_refl _) _
  have htY : Tri yb (.slice ta tn tc) (.slice sa (startsN xs z ws).length sc) (.map mo) Y := by rw [hY, hyb]; exact Tri.start w2 _ _ _ _
  have hWY : Below W.heap.size W Y := hb2.trans (hbY.mono hb2.size)
  have HWY : Hid (Below W.heap.size W Y) := hWY
  have HTY : Hid (Tri yb (.slice ta tn tc) (.slice sa (startsN xs z ws).length sc) (.map mo) Y) := htY
  have HLK : Hid (Looks Y W.heap.size (.map mo) xs ws (startsN xs z ws)) := hlk.below hbY
  have HGD : Hid (∀ x ∈ startsN xs z ws, stepN xs ws x ≠ 0) := hgood
  have HYS : Hid (nurB xs z ws = true → Strs Y ta xs ∧ tn = xs.length) := fun h => ⟨(hyes h).1.below hbY, (hyes h).2⟩
  clear hb2 hlk hgood hyes hY hyb hbY hWY c0 c1
  cases hnb : nurB xs z ws with
  | false =>
    have hres : res = false := by rw [HRD.out, hnb]; rfl
    subst hres
    have hR : R = [] := by rw [HLD.out, if_neg (by decide)]
    subst hR
    clear hnb HRD HLD
    go_wp2_with (first | (rw [← HY.out, ← HYB.out]) | (rw [← HY.out]))
    go_ret2
    exact aout_none rfl (HB0.out.trans (HWY.out.mono HB0.out.size))
  | true =>
    obtain ⟨htp, hL4, hnames⟩ := HPF.out hnb
    obtain ⟨hst, htn⟩ := HYS.out hnb
    subst htn
    have HRO : Hid (Calls _ _ _ Y _) := rootsOk_any Y (.slice ta xs.length tc) (.slice sa (startsN xs z ws).length sc) (.map mo) W.heap.size xs ws (startsN xs z ws) ra rc roots HRL.out (HRN.out Y HWY.out) HRB.out HLK.out
    have hres : res = (decide ((roots.length : Int) ≤ 400) && allNamedB (startsN xs z ws) roots) := by rw [HRD.out, hnb]; rfl
    rw [← hres] at HRO
    have HRS : Hid (res = (decide ((roots.length : Int) ≤ 400) && allNamedB (startsN xs z ws) roots)) := hres
    have HST : Hid (Strs Y ta xs) := hst
    have HNM : Hid (namesB xs ws (startsN xs z ws) (startsN xs z ws) = true) := hnames
    have HL4 : Hid ((startsN xs z ws).length ≤ 400) := hL4
    have H23 : Hid (∀ i (hi : i < xs.length), 1 ≤ xs[i].size ∧ xs[i].size ≤ 23) := by
      have h1 := htp
      unfold typesOk at h1
      rw [Bool.and_eq_true, List.all_eq_true] at h1
      exact fun i hi => isType_size (h1.2 _ (List.getElem_mem hi))
    obtain ⟨t0, t1, t2, _⟩ := htY
    clear hst hnames hL4 htp hnb hres HYS HPF HRD
    cases res with
    | false =>
      have hR : R = [] := by rw [HLD.out, if_neg (by decide)]
      subst hR
      generalize roots.length = rl at HRO
      go_wp2_with (first | (rw [← HY.out, ← HYB.out]) | (rw [← HY.out]))
      refine HRO.out.mono ?_
      rintro e w3 ⟨rfl, hb3⟩
      have HB3 : Hid (Below w.heap.size w w3) := HB0.out.trans ((HWY.out.trans (hb3.mono HWY.out.size)).mono HB0.out.size)
      clear hb3 t0 t1 t2
      go_wp2
      go_ret2
      exact aout_none rfl HB3.out
    | true =>
      have hrs := HRS.out.symm
      rw [Bool.and_eq_true] at hrs
      have h4 := of_decide_eq_true hrs.1
      have hR : R = clR xs ws (startsN xs z ws).length roots := by rw [HLD.out, if_pos rfl]
      have HRE : Hid (R = (clP xs ws (startsN xs z ws).length roots).map odd) := by show R = _; rw [hR]; exact clR_clP xs ws _ roots
      obtain ⟨hnd, hgp⟩ := clP_good (m := (startsN xs z ws).length) HNM.out hrs.2
      have hpl := goodP_len hnd hgp
      have HRF : Hid (∀ w', Below Y.heap.size Y w' → Calls _ _ _ w' _) := fun w' h => reachedFrom_any w' ta tc (.slice sa (startsN xs z ws).length sc) (.map mo) W.heap.size xs ws (startsN xs z ws) ra rc roots (HST.out.below h) (HLK.out.below h) HGD.out HXN.out H23.out HHH.out (HRN.out w' (HWY.out.trans (h.mono HWY.out.size))) (by omega) HRB.out HNM.out hrs.2 HL4.out
      have HPN : Hid (numsOf (natsOf (clP xs ws (startsN xs z ws).length roots)) = clP xs ws (startsN xs z ws).length roots) := nums_nats (fun p hp => (hgp p hp).1)
      have HPR : Hid (refsOfN (natsOf (clP xs ws (startsN xs z ws).length roots)) = R) := by show _ = R; rw [HRE.out]; exact refs_nats (fun p hp => (hgp p hp).1)
      have HYR : Hid (∀ (w' : World) (sa : Option Addr) (sc : Nat), Nums w' sa (clP xs ws (startsN xs z ws).length roots) → Calls _ _ _ w' _) := fun w' sa sc hnu => youngRefs_any w' sa sc (natsOf (clP xs ws (startsN xs z ws).length roots)) (by rw [nats_len]; have := HL4.out; omega) (fun a ha => by
        unfold natsOf at ha
        obtain ⟨p, hp, rfl⟩ := List.mem_map.1 ha
        have := hgp p hp
        have := this.1
        have := (hgp p hp).2.1
        omega) (by rw [HPN.out]; exact hnu)
      rw [HPR.out, nats_len] at HYR
      have HTK : Hid (∀ w', Below Y.heap.size Y w' → Tri yb (.slice ta xs.length tc) (.slice sa (startsN xs z ws).length sc) (.map mo) w') := fun w' h => HTY.out.below h
      generalize clP xs ws (startsN xs z ws).length roots = P at HRF HYR
      clear hrs h4 hR hnd hgp hpl HPN HPR HRE HLD HRS
      generalize roots.length = rl at HRO HRF
      go_wp2_with (first | (rw [← HY.out, ← HYB.out]) | (rw [← HY.out]))
      refine HRO.out.mono ?_
      rintro e w3 ⟨rfl, hb3⟩
      have HB3 : Hid (Below Y.heap.size Y w3) := hb3
      clear hb3 t0 t1 t2
      obtain ⟨t0, t1, t2, _⟩ := HTK.out w3 HB3.out
      go_wp2_with fail
      refine (HRF.out w3 HB3.out).mono ?_
      rintro e w4 ⟨a4, g4, c4, rfl, hg4, hi4, hb4⟩
      have HB4 : Hid (Below Y.heap.size Y w4) := HB3.out.trans (hb4.mono HB3.out.size)
      have HY4 : Hid (Calls _ _ _ w4 _) := HYR.out w4 a4 c4 hi4.nums
      generalize P.length = pl at HY4
      clear hg4 hi4 hb4 t0 t1 t2
      go_wp2_with fail
      refine HY4.out.mono ?_
      rintro e w5 ⟨a5, g5, c5, rfl, hg5, hi5, hb5⟩
      have HI5 : Hid (Ints w5 a5 g5 R) := hi5
      have HG5 : Hid (w.heap.size ≤ g5) := by have := HB0.out.size; have := HWY.out.size; have := HB4.out.size; show w.heap.size ≤ g5; omega
      have HB5 : Hid (Below w.heap.size w w5) := HB0.out.trans ((HWY.out.trans ((HB4.out.trans (hb5.mono HB4.out.size)).mono HWY.out.size)).mono HB0.out.size)
      clear hg5 hi5 hb5
      go_wp2
      go_ret2
      exact ⟨a5, g5, c5, rfl, HG5.out, HI5.out, HB5.out⟩
end Go.Proofs.Ytngpmohmnpbcnaa.cl
