/-
  A collection of a nursery, by the program.
-/
import Derived.Test.YtngpmohmnpbcnaaMiAns
import Derived.Test.YtngpmohmnpbcnaaClImpl
import Derived.Lib.MinMax
import Derived.Deep.Cut
import Derived.Deep.CutRange
import Derived.Deep.DeepCutAuto
namespace Go.Proofs.Ytngpmohmnpbcnaa.mi
open Go.RowKit
open kinds ints ref obj nu cl

set_option maxHeartbeats 4000000 in
set_option maxRecDepth 20000 in
theorem impl_minor (w : World) (a : Option Addr) (cap : Nat) (xs : List ByteArray) (z : Int) (a2 : Option Addr) (n vcap : Nat) (ws : List Int) (ra : Option Addr) (rc : Nat) (roots : List Int) (hx : ws.length = n) (hxn : xs.length ≤ 1048576) (hl : Strs w a xs) (hz : ∀ i (hi : i < xs.length), xs[i].size ≤ 1048576) (hn : n ≤ 1048576) (hcap : n ≤ vcap) (hv : Nums w a2 ws) (hh : ∀ x ∈ ws, x < 9223372036854775808) (hrt : Nums w ra roots) (hrn : roots.length ≤ 1048576) (hrb : ∀ x ∈ roots, x < 9223372036854775808) :
    Calls Try.prog 23 #[.slice a xs.length cap, .agg #[.int .i64 z, .slice a2 n vcap], .slice ra roots.length rc] w fun e w' => MinAns xs z ws roots w e w' := by
  obtain ⟨W, hW⟩ : ∃ W, W = (w.alloc (.cells #[.int .i64 z, .slice a2 n vcap] 31)).alloc (.cells #[.int .i64 0, .slice none 0 0] 31) := ⟨_, rfl⟩
  have HW : Hid (W = (w.alloc (.cells #[.int .i64 z, .slice a2 n vcap] 31)).alloc (.cells #[.int .i64 0, .slice none 0 0] 31)) := hW
  obtain ⟨hb0, hsz, c0, c1, r0, r1, rf⟩ := box_two _ w z a2 n vcap W hW
  have HK : Hid (∀ w', Below W.heap.size W w' → w'.cell? ⟨w.heap.size, 0, none⟩ = some (.int .i64 z)) := fun w' h => by rw [h.cell (p := ⟨w.heap.size, 0, none⟩) (by show w.heap.size < _; omega)]; exact c0
  have HRC : Hid (∀ w', Below W.heap.size W w' → w'.cell? ⟨w.heap.size + 1, 0, none⟩ = some (.int .i64 0) ∧ w'.cell? ⟨w.heap.size + 1, 1, none⟩ = some (.slice none 0 0) ∧ ∀ k, w'.frozen? ⟨w.heap.size + 1, k, none⟩ = false) := fun w' h =>
    ⟨by rw [h.cell (p := ⟨w.heap.size + 1, 0, none⟩) (by show w.heap.size + 1 < _; omega)]; exact r0, by rw [h.cell (p := ⟨w.heap.size + 1, 1, none⟩) (by show w.heap.size + 1 < _; omega)]; exact r1, fun k => by rw [h.frozen (p := ⟨w.heap.size + 1, k, none⟩) (by show w.heap.size + 1 < _; omega)]; exact rf k⟩
  have HB0 : Hid (Below w.heap.size w W) := hb0
  have HSZ : Hid (W.heap.size = w.heap.size + 2) := hsz
  have HOP : Hid (Calls _ _ _ W _) := opened_any W a cap xs z a2 n vcap ws hx hxn (hl.below hb0) hz hn hcap (hv.below hb0) hh
  have HRN : Hid (∀ w', Below W.heap.size W w' → Nums w' ra roots) := fun w' h => (hrt.below hb0).below h
  have HSA : Hid (∀ w', Below W.heap.size W w' → Strs w' a xs) := fun w' h => (hl.below hb0).below h
  have HRB : Hid (∀ x ∈ roots, x < 9223372036854775808) := hrb
  have HRL : Hid (roots.length ≤ 1048576) := hrn
  have HXN : Hid (xs.length ≤ 1048576) := hxn
  have HHH : Hid (∀ x ∈ ws, x < 9223372036854775808) := hh
  have HXL : Hid (ws.length = n) := hx
  have HRD : Hid (rootsB xs z ws roots = (nurB xs z ws && (decide ((roots.length : Int) ≤ 400) && allNamedB (startsN xs z ws) roots))) := rfl
  have HPF : Hid (nurB xs z ws = true → typesOk xs = true ∧ (startsN xs z ws).length ≤ 400 ∧ namesB xs ws (startsN xs z ws) (startsN xs z ws) = true) := fun h => by
    obtain ⟨h1, _, h3⟩ := nurB_found h
    obtain ⟨q1, _, q3, q4⟩ := preN_facts h1
    have := starts_len xs z ws
    exact ⟨q1, by omega, h3⟩
  have HBE : Hid (∀ w', Below W.heap.size W w' → ∀ x0 x1, Below w.heap.size w ((w'.setCell ⟨w.heap.size + 1, 0, none⟩ x0).setCell ⟨w.heap.size + 1, 1, none⟩ x1)) := fun w' h x0 x1 => ((hb0.trans (h.mono hb0.size)).setCell (p := ⟨w.heap.size + 1, 0, none⟩) (by show w.heap.size ≤ w.heap.size + 1; omega) _).setCell (p := ⟨w.heap.size + 1, 1, none⟩) (by show w.heap.size ≤ w.heap.size + 1; omega) _
  unfold OpenAns at HOP
  clear hW hl hv hrt hb0 hx hxn hh hz hsz hrb r0 r1 rf
  go_enter Try.func23, Try.ntmps23
  go_wp2_with (rw [← HW.out])
  refine HOP.out.mono ?_
  rintro e w2 ⟨hb2, ta, tn, tc, sa, sc, mo, rfl, _, hlk, hgood, _, hyes⟩
  obtain ⟨Y, hY⟩ : ∃ Y, Y = w2.alloc (.cells #[.slice ta tn tc, .slice sa (startsN xs z ws).length sc, .map mo] 60) := ⟨_, rfl⟩
  obtain ⟨yb, hyb⟩ : ∃ yb, yb = w2.heap.size := ⟨_, rfl⟩
  have HY : Hid (Y = w2.alloc (.cells #[.slice ta tn tc, .slice sa (startsN xs z ws).length sc, .map mo] 60)) := hY
  have HYB : Hid (yb = w2.heap.size) := hyb
  have hbY : Below w2.heap.size w2 Y := by rw [hY]; exact (Below.refl _ _).alloc (Nat.le_refl _) _
  have htY : Tri yb (.slice ta tn tc) (.slice sa (startsN xs z ws).length sc) (.map mo) Y := by rw [hY, hyb]; exact Tri.start w2 _ _ _ _
  have hWY : Below W.heap.size W Y := hb2.trans (hbY.mono hb2.size)
  have HWY : Hid (Below W.heap.size W Y) := hWY
  have HTY : Hid (Tri yb (.slice ta tn tc) (.slice sa (startsN xs z ws).length sc) (.map mo) Y) := htY
  have HLK : Hid (Looks Y W.heap.size (.map mo) xs ws (startsN xs z ws)) := hlk.below hbY
  have HGD : Hid (∀ x ∈ startsN xs z ws, stepN xs ws x ≠ 0) := hgood
  have HYS : Hid (nurB xs z ws = true → Strs Y ta xs ∧ tn = xs.length) := fun h => ⟨(hyes h).1.below hbY, (hyes h).2⟩
  clear hb2 hlk hgood hyes hY hyb hbY hWY c0 c1
  cases hnb : nurB xs z ws with
  | false =>
    have hres : rootsB xs z ws roots = false := by rw [HRD.out, hnb]; rfl
    have HRE : Hid (rootsB xs z ws roots = false) := hres
    clear hnb HRD hres
    obtain ⟨r0, r1, rf⟩ := HRC.out Y HWY.out
    have z0 := rf 0
    have z1 := rf 1
    have HP2 : Hid (∀ x0 x1, _) := two_put r0 r1
    clear rf
    go_wp2_with (first | (rw [← HY.out, ← HYB.out]) | (rw [← HY.out]))
    refine bodyPost_ret (v := .tuple #[.agg #[.int .i64 0, .slice none 0 0], .slice none 0 0, .bool false]) ?_ rfl (min_no HRE.out rfl (HBE.out _ HWY.out _ _))
    obtain ⟨q0, q1⟩ := HP2.out (.int .i64 0) (.slice none 0 0)
    simp [results, Try.results23, go_sem, q0, q1]
  | true =>
    obtain ⟨htp, hL4, hnames⟩ := HPF.out hnb
    obtain ⟨hst, htn⟩ := HYS.out hnb
    subst htn
    have HRO : Hid (Calls _ _ _ Y _) := rootsOk_any Y (.slice ta xs.length tc) (.slice sa (startsN xs z ws).length sc) (.map mo) W.heap.size xs ws (startsN xs z ws) ra rc roots HRL.out (HRN.out Y HWY.out) HRB.out HLK.out
    have hres : rootsB xs z ws roots = (decide ((roots.length : Int) ≤ 400) && allNamedB (startsN xs z ws) roots) := by rw [HRD.out, hnb]; rfl
    rw [← hres] at HRO
    obtain ⟨t0, t1, t2, _⟩ := htY
    cases hrb : rootsB xs z ws roots with
    | false =>
      rw [hrb] at HRO
      have HRE : Hid (rootsB xs z ws roots = false) := hrb
      clear hrb hres hnb HRD HYS HPF hst hnames hL4 htp
      generalize roots.length = rl at HRO
      go_wp2_with (first | (rw [← HY.out, ← HYB.out]) | (rw [← HY.out]))
      refine HRO.out.mono ?_
      rintro e w3 ⟨rfl, hb3⟩
      have HB3 : Hid (Below W.heap.size W w3) := HWY.out.trans (hb3.mono HWY.out.size)
      clear hb3 t0 t1 t2
      obtain ⟨r0, r1, rf⟩ := HRC.out w3 HB3.out
      have z0 := rf 0
      have z1 := rf 1
      have HP2 : Hid (∀ x0 x1, _) := two_put r0 r1
      clear rf
      go_wp2
      refine bodyPost_ret (v := .tuple #[.agg #[.int .i64 0, .slice none 0 0], .slice none 0 0, .bool false]) ?_ rfl (min_no HRE.out rfl (HBE.out _ HB3.out _ _))
      obtain ⟨q0, q1⟩ := HP2.out (.int .i64 0) (.slice none 0 0)
      simp [results, Try.results23, go_sem, q0, q1]
    | true =>
      rw [hrb] at HRO
      have hrs := hres.symm.trans hrb
      rw [Bool.and_eq_true] at hrs
      have h4 := of_decide_eq_true hrs.1
      have HRE : Hid (rootsB xs z ws roots = true) := hrb
      have HKP : Hid (Kept xs ws (startsN xs z ws) (minP xs z ws roots)) := kept_of hrb
      have h23 : ∀ i (hi : i < xs.length), 1 ≤ xs[i].size ∧ xs[i].size ≤ 23 := by
        have h1 := htp
        unfold typesOk at h1
        rw [Bool.and_eq_true, List.all_eq_true] at h1
        exact fun i hi => isType_size (h1.2 _ (List.getElem_mem hi))
      have HST : Hid (Strs Y ta xs) := hst
      have HL4 : Hid ((startsN xs z ws).length ≤ 400) := hL4
      have HNM : Hid (namesB xs ws (startsN xs z ws) (startsN xs z ws) = true) := hnames
      have HR4 : Hid (roots.length ≤ 400) := by show roots.length ≤ 400; omega
      have HRF : Hid (∀ w', Below Y.heap.size Y w' → Calls Try.prog 42 #[.agg #[.slice ta xs.length tc, .slice sa (startsN xs z ws).length sc, .map mo], .slice ra roots.length rc] w' fun e w'' => ∃ a2 g c, e = .returned (.slice a2 (minP xs z ws roots).length c) ∧ w'.heap.size ≤ g ∧ Ints w'' a2 g (minP xs z ws roots) ∧ Below w'.heap.size w' w'') := fun w' h => reachedFrom_any w' ta tc (.slice sa (startsN xs z ws).length sc) (.map mo) W.heap.size xs ws (startsN xs z ws) ra rc roots (HST.out.below h) (HLK.out.below h) HGD.out HXN.out h23 HHH.out (HRN.out w' (HWY.out.trans (h.mono HWY.out.size))) (by omega) HRB.out HNM.out hrs.2 HL4.out
      have hpl := HKP.out.len
      have HYR : Hid (∀ (w' : World) (sa : Option Addr) (sc : Nat), Nums w' sa (minP xs z ws roots) → Calls Try.prog 41 #[.slice sa (minP xs z ws roots).length sc] w' fun e w'' => ∃ a g c, e = .returned (.slice a (minP xs z ws roots).length c) ∧ w'.heap.size ≤ g ∧ Ints w'' a g ((minP xs z ws roots).map odd) ∧ Below w'.heap.size w' w'') := fun w' sa sc hnu => by
        have hgp := HKP.out.good
        have h1 := youngRefs_any w' sa sc (natsOf (minP xs z ws roots)) (by rw [nats_len]; omega) (fun a ha => by
          unfold natsOf at ha
          obtain ⟨p, hp, rfl⟩ := List.mem_map.1 ha
          have := (hgp p hp).1
          have := (hgp p hp).2.1
          omega) (by rw [nums_nats (fun p hp => (hgp p hp).1)]; exact hnu)
        rw [refs_nats (fun p hp => (hgp p hp).1), nats_len, List.length_map] at h1
        exact h1
      have HNR : Hid (∀ w', Below Y.heap.size Y w' → ∀ (pa : Option Addr) (pc : Nat), Nums w' pa (minP xs z ws roots) → Calls Try.prog 45 #[.agg #[.slice ta xs.length tc, .slice sa (startsN xs z ws).length sc, .map mo], .slice pa (minP xs z ws roots).length pc] w' fun e w'' => ∃ a g c, e = .returned (.slice a (minP xs z ws roots).length c) ∧ w'.heap.size ≤ g ∧ Ints w'' a g (newK xs ws (minP xs z ws roots) (minP xs z ws roots).length) ∧ Below w'.heap.size w' w'') := fun w' h pa pc hnu => by
        have h1 := newRefs_any w' (.slice ta xs.length tc) (.slice sa (startsN xs z ws).length sc) (.map mo) W.heap.size xs ws (startsN xs z ws) pa pc (minP xs z ws roots) HKP.out (HLK.out.below h) hnu
        unfold AOut at h1
        rw [newK_len] at h1
        exact h1
      have HONE : Hid (∀ (aa : Nat), aa ∈ startsN xs z ws → ∀ w', Below Y.heap.size Y w' → ∀ (b c d : Option Addr) (vcap cc cd : Nat), Nums w' b (valsA xs ws aa) → Nums w' c ((minP xs z ws roots).map odd) → Nums w' d (newK xs ws (minP xs z ws roots) (minP xs z ws roots).length) → Calls _ _ _ w' _) := fun aa ha w' h b c d vcap cc cd q1 q2 q3 => fw_at HKP.out htp HNM.out aa ha w' a cap b vcap c d cc cd h23 HXN.out HHH.out (HSA.out w' (HWY.out.trans (h.mono HWY.out.size))) q1 q2 q3
      have HTK : Hid (∀ w', Below Y.heap.size Y w' → Tri yb (.slice ta xs.length tc) (.slice sa (startsN xs z ws).length sc) (.map mo) w') := fun w' h => HTY.out.below h
      have HFD : Hid (∀ aa, aa ∈ startsN xs z ws → (valsA xs ws aa).length ≤ 23 ∧ 0 ≤ ws.getD aa 0 / 4 ∧ ws.getD aa 0 / 4 ≤ 1048576 ∧ 0 ≤ ws.getD aa 0 % 4 ∧ ws.getD aa 0 % 4 ≤ 3) := fun aa ha => by
        have hgd := HGD.out aa ha
        obtain ⟨hh0, hpb, hfit, _⟩ := stepN_le hgd
        obtain ⟨q, hpe, hpl⟩ := placeB_nat hpb
        have hvl := valsA_len hgd
        rw [kdH_at hpl hpe] at hvl
        have := h23 q hpl
        have := HXN.out
        omega
      have HMT : Hid (minF xs z ws roots = (minP xs z ws roots).map odd ∧ minT xs z ws roots = newK xs ws (minP xs z ws roots) (minP xs z ws roots).length) := ⟨rfl, rfl⟩
      have HYES : Hid (∀ e w', MiOut z (minK xs ws (minP xs z ws roots) ((minP xs z ws roots).map odd) (newK xs ws (minP xs z ws roots) (minP xs z ws roots).length) (minP xs z ws roots).length) (roots.map (fwd ((minP xs z ws roots).map odd) (newK xs ws (minP xs z ws roots) (minP xs z ws roots).length))) true w e w' → MinAns xs z ws roots w e w') := fun e w' q => min_yes hrb q
      clear hrb hres hnb HRD HYS HPF hst hnames hL4 htp hrs h4 h23
      generalize minP xs z ws roots = P at HKP HRF HYR HNR HONE HYES hpl
      clear HMT
      go_wp2_with (first | (rw [← HY.out, ← HYB.out]) | (rw [← HY.out]))
      refine HRO.out.mono ?_
      rintro e w3 ⟨rfl, hb3⟩
      have HB3 : Hid (Below Y.heap.size Y w3) := hb3
      clear hb3 t0 t1 t2
      obtain ⟨t0, t1, t2, _⟩ := HTK.out w3 HB3.out
      go_wp2_with fail
      refine (HRF.out w3 HB3.out).mono ?_
      rintro e w4 ⟨pa, pg, pc, rfl, hg4, hi4, hb4⟩
      have HB4 : Hid (Below Y.heap.size Y w4) := HB3.out.trans (hb4.mono HB3.out.size)
      have HP4 : Hid (∀ w', Below w4.heap.size w4 w' → Nums w' pa P) := fun w' h => hi4.nums.below h
      clear hg4 hi4 hb4 t0 t1 t2
      obtain ⟨t0, t1, t2, _⟩ := HTK.out w4 HB4.out
      have HCU : Hid (∀ w', Below w4.heap.size w4 w' → Below Y.heap.size Y w') := fun w' h => HB4.out.trans (h.mono HB4.out.size)
      have HS5 : Hid (∀ w', Below w4.heap.size w4 w' → w'.cell? ⟨yb, 0, none⟩ = some (.slice ta xs.length tc) ∧ w'.cell? ⟨yb, 1, none⟩ = some (.slice sa (startsN xs z ws).length sc) ∧ w'.cell? ⟨yb, 2, none⟩ = some (.map mo)) := fun w' h => by
        obtain ⟨t0, t1, t2, _⟩ := HTK.out w' (HCU.out w' h)
        exact ⟨t0, t1, t2⟩
      have hacc : Below w4.heap.size w4 w4.drew := (Below.refl _ _).drew
      go_upto_region 5 with fail
      go_cut [12, 13] (fun v1 v2 wx => ∃ (fa na : Option Addr) (fc nc : Nat), v1 = .slice fa P.length fc ∧ v2 = .slice na P.length nc ∧ Nums wx fa (P.map odd) ∧ Nums wx na (newK xs ws P P.length) ∧ Below w4.heap.size w4 wx)
      case first =>
        go_region_held3 (fun w' => w'.cell? ⟨yb, 0, none⟩ = some (.slice ta xs.length tc) ∧ w'.cell? ⟨yb, 1, none⟩ = some (.slice sa (startsN xs z ws).length sc) ∧ w'.cell? ⟨yb, 2, none⟩ = some (.map mo)) (first | with_reducible exact HS5.out _ hacc)
          (first | (go_at_call 41; refine (HYR.out _ _ _ (HP4.out _ hacc)).mono ?_; rintro e wA ⟨aA, gA, cA, rfl, _, hiA, hbX⟩; (first | (have hiB2 := hiB.below hbX; clear hiB; have hiB := hiB2; clear hiB2) | skip); have hac2 : Below w4.heap.size w4 wA := hacc.trans (hbX.mono hacc.size); clear hacc hbX; have hacc := hac2; clear hac2) | (go_at_call 45; refine (HNR.out _ (HCU.out _ hacc) _ _ (HP4.out _ hacc)).mono ?_; rintro e wB ⟨aB, gB, cB, rfl, _, hiB, hbX⟩; (first | (have hiA2 := hiA.below hbX; clear hiA; have hiA := hiA2; clear hiA2) | skip); have hac2 : Below w4.heap.size w4 wB := hacc.trans (hbX.mono hacc.size); clear hacc hbX; have hacc := hac2; clear hac2))
        all_goals
          go_wp2_with fail
          go_meet
          exact ⟨aA, aB, cA, cB, rfl, rfl, hiA.nums, hiB.nums, hacc⟩
      case rest =>
        obtain ⟨fa, na, fc, nc, rfl, rfl, hfr, hto, hU⟩ := hcut
        obtain ⟨U, hUe⟩ : ∃ X, X = wc := ⟨_, rfl⟩
        rw [← hUe] at hfr hto hU ⊢
        obtain ⟨cb, hcb⟩ : ∃ cb, cb = U.heap.size := ⟨_, rfl⟩
        obtain ⟨V, hV⟩ : ∃ V, V = U.alloc (.cells #[.int .i64 z, .slice none 0 0] 31) := ⟨_, rfl⟩
        have HV : Hid (V = U.alloc (.cells #[.int .i64 z, .slice none 0 0] 31)) := hV
        have HCB : Hid (cb = U.heap.size) := hcb
        have HC0 : Hid (OBox U cb z [] (.slice none 0 0) V) := by rw [hV, hcb]; exact OBox.start U U z _ (Below.refl _ _)
        have HYU : Hid (Below Y.heap.size Y U) := HCU.out U hU
        have HWU : Hid (∀ w', Below U.heap.size U w' → Below W.heap.size W w') := fun w' h => HWY.out.trans ((HYU.out.trans (h.mono HYU.out.size)).mono HWY.out.size)
        have HYW : Hid (∀ w', Below U.heap.size U w' → Below Y.heap.size Y w') := fun w' h => HYU.out.trans (h.mono HYU.out.size)
        have HPU : Hid (∀ w', Below U.heap.size U w' → Nums w' pa P ∧ Nums w' fa (P.map odd) ∧ Nums w' na (newK xs ws P P.length)) := fun w' h => ⟨HP4.out w' (hU.trans (h.mono hU.size)), hfr.below h, hto.below h⟩
        have k0 := HK.out U (HWU.out U (Below.refl _ _))
        have hpl := HKP.out.len
        clear hcb hV hfr hto hU hUe hacc t0 t1 t2 HS5 HCU HP4 HRO HRF HYR HNR HOP
        go_wp2_with (first | (rw [← HV.out, ← HCB.out]) | (rw [← HV.out]))
        try rw [← HCB.out]
        clear k0
        go_loopw [46] (fun i wr => ∃ (k : Nat) (v : Value), k ≤ P.length ∧ i = .int .i64 (k : Int) ∧ OBox U cb z (minK xs ws P (P.map odd) (newK xs ws P P.length) k) v wr) (fun i _ => P.length - (intOf i).toNat)
        case atStart => exact ⟨0, _, Nat.zero_le _, rfl, HC0.out⟩
        case round =>
          obtain ⟨k, v, hk, rfl, hbox⟩ := hrel
          have HX : Hid (OBox U cb z (minK xs ws P (P.map odd) (newK xs ws P P.length) k) v wr) := hbox
          clear hbox
          by_cases hlt : k < P.length
          · have hki : (k : Int) < (P.length : Int) := by omega
            have hk0 : (0 : Int) ≤ (k : Int) := by omega
            have hk4 : k ≤ 400 := by omega
            have HKN : Hid (k < P.length) := hlt
            obtain ⟨hpn, hfn, htn⟩ := HPU.out wr HX.out.below
            obtain ⟨b5, o5, rfl, e5⟩ := hpn k hlt
            rw [getD_of P k hlt] at e5
            have hgp := HKP.out.good _ (List.getElem_mem hlt)
            rw [getD_of P k hlt] at hgp
            have HTK2 : Hid (minK xs ws P (P.map odd) (newK xs ws P P.length) (k + 1) = minK xs ws P (P.map odd) (newK xs ws P P.length) k ++ oneW xs ws (P.map odd) (newK xs ws P P.length) (P.getD k 0)) := rfl
            have HNL : Hid ((minK xs ws P (P.map odd) (newK xs ws P P.length) k).length ≤ 1048576) := by
              show (minK xs ws P (P.map odd) (newK xs ws P P.length) k).length ≤ _
              rw [HKP.out.minK_len _ _ k (by omega)]
              have := HKP.out.tot4 k
              omega
            generalize P.getD k 0 = p at e5 hgp HTK2
            obtain ⟨aa, rfl⟩ := Int.eq_ofNat_of_zero_le hgp.1
            have hal := hgp.2.2
            rw [Int.toNat_natCast] at hal
            have ha9 : aa ≤ 399 := by have := hgp.2.1; omega
            have HYR2 : Hid (Below Y.heap.size Y wr) := HYW.out wr HX.out.below
            obtain ⟨g, c, hlook, _, hin⟩ := (HLK.out.below HYR2.out).get aa hal (by omega)
            obtain ⟨hv23, ht0, ht1, hg0, hg3⟩ := HFD.out aa hal
            have HOW : Hid (oneW xs ws (P.map odd) (newK xs ws P P.length) (aa : Int) = (4 * (ws.getD aa 0 / 4) + min (ws.getD aa 0 % 4 + 1) 3) :: fwdL (fwd (P.map odd) (newK xs ws P P.length)) (kdH xs (ws.getD aa 0)) (valsA xs ws aa) (valsA xs ws aa).length) := by
              show oneW xs ws (P.map odd) (newK xs ws P P.length) (aa : Int) = _
              unfold oneW headW
              rw [Int.toNat_natCast]
            rw [HOW.out] at HTK2
            have HFW : Hid (∀ w', Below wr.heap.size wr w' → Calls _ _ _ w' _) := fun w' h => HONE.out aa hal w' (HYR2.out.trans (h.mono HYR2.out.size)) (some ⟨g, 0, none⟩) fa na c fc nc (hin.nums.below h) (hfn.below h) (htn.below h)
            unfold FOut at HFW
            have hfl : (fwdL (fwd (P.map odd) (newK xs ws P P.length)) (kdH xs (ws.getD aa 0)) (valsA xs ws aa) (valsA xs ws aa).length).length = (valsA xs ws aa).length := fwdL_len _ _ _ _
            have hl1 := (hlook wr (Below.refl _ _)).1
            generalize fwdL (fwd (P.map odd) (newK xs ws P P.length)) (kdH xs (ws.getD aa 0)) (valsA xs ws aa) (valsA xs ws aa).length = fv at HTK2 HFW hfl
            generalize minK xs ws P (P.map odd) (newK xs ws P P.length) k = M at HX HTK2 HNL
            generalize (valsA xs ws aa).length = vl at HFW hfl hl1 hv23
            generalize ws.getD aa 0 % 4 = ag at HTK2 hl1 hg0 hg3
            generalize ws.getD aa 0 / 4 = ty at HTK2 HFW hl1 ht0 ht1
            have HFL : Hid (fv.length = vl) := hfl
            obtain ⟨vb, hvb⟩ : ∃ vb, vb = wr.heap.size := ⟨_, rfl⟩
            obtain ⟨V1, hV1⟩ : ∃ V1, V1 = wr.alloc (.cells #[.int .i64 ag, .int .i64 ty, .slice (some ⟨g, 0, none⟩) vl c] 71) := ⟨_, rfl⟩
            have HV1 : Hid (V1 = wr.alloc (.cells #[.int .i64 ag, .int .i64 ty, .slice (some ⟨g, 0, none⟩) vl c] 71)) := hV1
            have HVB : Hid (vb = wr.heap.size) := hvb
            have hbV : Below wr.heap.size wr V1 := by rw [hV1]; exact (Below.refl _ _).alloc (Nat.le_refl _) _
            have HBV : Hid (Below wr.heap.size wr V1) := hbV
            have HVL : Hid (vb < V1.heap.size) := by show vb < _; rw [hV1, hvb]; simp
            have htV : Tri vb (.int .i64 ag) (.int .i64 ty) (.slice (some ⟨g, 0, none⟩) vl c) V1 := by rw [hV1, hvb]; exact Tri.start wr _ _ _ _
            have HTV : Hid (∀ w', Below V1.heap.size V1 w' → Tri vb (.int .i64 ag) (.int .i64 ty) (.slice (some ⟨g, 0, none⟩) vl c) w') := fun w' h => htV.below h
            have HFV : Hid (∀ w', Below V1.heap.size V1 w' → Below wr.heap.size wr w') := fun w' h => HBV.out.trans (h.mono HBV.out.size)
            obtain ⟨t0, t1, t2, _⟩ := HTK.out wr HYR2.out
            have hacc : Below V1.heap.size V1 V1.drew := (Below.refl _ _).drew
            obtain ⟨y0, y1, y2, _⟩ := HTV.out V1 (Below.refl _ _)
            have hwa : IntKind.i64.wrap (ag + 1) = ag + 1 := by rw [IntKind.wrap_i64]; omega
            obtain ⟨m3, hm3⟩ : ∃ m3, m3 = min (ag + 1) 3 := ⟨_, rfl⟩
            have hm0 : 0 ≤ m3 ∧ m3 ≤ 3 := by omega
            have HM3 : Hid (m3 = min (ag + 1) 3) := hm3
            clear hvb hV1 hbV htV hgp hal hlook hin hfn htn hpn hfl hm3
            go_upto_region 11 with (first | (rw [← HV1.out, ← HVB.out]) | (rw [← HV1.out]))
            try rw [← HVB.out]
            go_cut [17] (fun pv wx => ∃ (aF : Option Addr) (gF cF : Nat), pv = .pointer (some ⟨vb, 0, none⟩) ∧ Tri vb (.int .i64 m3) (.int .i64 ty) (.slice aF vl cF) wx ∧ Nums wx aF fv ∧ Below wr.heap.size wr wx)
            case first =>
              go_region_law (first | (go_simp; go_at_call 46; refine (HFW.out _ (HFV.out _ hacc)).mono ?_; rintro e wF ⟨aF, gF, cF, rfl, hgF, hiF, hbF⟩; have hac2 : Below V1.heap.size V1 wF := hacc.trans (hbF.mono hacc.size); clear hacc hbF; have hacc := hac2; clear hac2; obtain ⟨y0, y1, y2, yf⟩ := HTV.out wF hacc; have z0 := yf 0; have z1 := yf 1; have z2 := yf 2))
              all_goals
                go_wp2_with fail
                go_meet
                have hbF := HFV.out _ hacc
                have hgt : vb < gF := Nat.lt_of_lt_of_le HVL.out hgF
                exact ⟨aF, gF, cF, rfl, by rw [HM3.out]; exact (HTV.out wF hacc).put _ _ _, ((hiF.grown (grown_set _ _ _ _) (by omega)).grown (grown_set _ _ _ _) (by omega)).grown (grown_set _ _ _ _) (by omega) |>.nums, put_below hbF (by rw [HVB.out]; exact Nat.le_refl _) _ _ _⟩
            case rest =>
              obtain ⟨aF, gF, cF, rfl, htri, hnF, hbX⟩ := hcut
              obtain ⟨X, hXe⟩ : ∃ X, X = wc := ⟨_, rfl⟩
              rw [← hXe] at htri hnF hbX ⊢
              have HXX : Hid (OBox U cb z M v X) := HX.out.later hbX
              have HTX : Hid (∀ w', Below X.heap.size X w' → Tri vb (.int .i64 m3) (.int .i64 ty) (.slice aF vl cF) w') := fun w' h => htri.below h
              have HNF : Hid (Nums X aF fv) := hnF
              have HWD : Hid (∀ w', Below X.heap.size X w' → Calls _ _ _ w' _) := fun w' h => words_age w' m3 ty aF vl cF fv HFL.out (by omega) hm0.1 hm0.2 ht0 ht1 (HNF.out.below h)
              unfold AOut at HWD
              have HL1 : Hid (((4 * ty + m3) :: fv).length = 1 + vl) := by show ((4 * ty + m3) :: fv).length = _; rw [List.length_cons, HFL.out]; omega
              rw [HL1.out] at HWD
              have HTK3 : Hid (minK xs ws P (P.map odd) (newK xs ws P P.length) (k + 1) = M ++ ((4 * ty + m3) :: fv)) := by
                show minK xs ws P (P.map odd) (newK xs ws P P.length) (k + 1) = _
                rw [HTK2.out, HM3.out]
              generalize (4 * ty + m3) :: fv = L1 at HWD HL1 HTK3
              clear hXe htri hnF hbX y0 y1 y2 t0 t1 t2 hacc HTK2 hwa e5
              obtain ⟨y0, y1, y2, _⟩ := HTX.out X (Below.refl _ _)
              have c1 := HXX.out.c1
              have hacc : Below X.heap.size X X.drew := (Below.refl _ _).drew
              go_wp2_with fail
              go_region_law (first | (go_simp; go_at_call 47; refine (HWD.out _ hacc).mono ?_; rintro e wA ⟨aA, gA, cA, rfl, hgA, hiA, hbA⟩; have hac2 : Below X.heap.size X wA := hacc.trans (hbA.mono hacc.size); clear hacc hbA; have HAA : Hid (Below X.heap.size X wA) := hac2; clear hac2; have HIA : Hid (Ints wA aA gA L1) := hiA; clear hiA hgA; have HXA : Hid (OBox U cb z M v wA) := HXX.out.later HAA.out; have k1 := HXA.out.c1) | (refine step_pushV wA (by rfl) _ _ (by rfl) (cb + 1) v M.length M aA (1 + vl) cA L1 rfl HL1.out (by omega) HXA.out.own (by rfl) (by rfl) HIA.out.nums HNL.out (by omega) HXA.out.lt ?_; intro g6 c6 w6 hown6 hb6 hB6; have HX6 : Hid (_) := HXA.out.step hown6 hb6; obtain ⟨k6, f6⟩ := HXA.out.kept hb6; clear hown6 hb6 hB6))
              all_goals
                go_wp2_with fail
                go_roundw
                case rel => exact ⟨k + 1, _, by have := HKN.out; omega, by go_num, by rw [HTK3.out]; exact HX6.out⟩
                case measure => have := HKN.out; simp [intOf]; omega
          · obtain rfl : k = P.length := by omega
            have HWR : Hid (∀ w', Below wr.heap.size wr w' → Below W.heap.size W w') := fun w' h => HWU.out w' (HX.out.below.trans (h.mono HX.out.below.size))
            have HBW : Hid (W.heap.size ≤ wr.heap.size) := (HWR.out wr (Below.refl _ _)).size
            have HFR : Hid (∀ w', Below wr.heap.size wr w' → Calls Try.prog 48 #[.slice ra roots.length rc, .slice fa P.length fc, .slice na P.length nc] w' fun e w'' => ∃ a g c, e = .returned (.slice a roots.length c) ∧ w'.heap.size ≤ g ∧ Ints w'' a g (roots.map (fwd (P.map odd) (newK xs ws P P.length))) ∧ Below w'.heap.size w' w'') := fun w' h => by
              obtain ⟨_, q1, q2⟩ := HPU.out w' (HX.out.below.trans (h.mono HX.out.below.size))
              have h1 := fwdRefs_any w' ra fa na rc fc nc roots (P.map odd) (newK xs ws P P.length) HRL.out (by rw [List.length_map]; omega) (by rw [List.length_map, newK_len]) (HRN.out w' (HWR.out w' h)) q1 q2
              rw [List.length_map, newK_len] at h1
              refine h1.mono fun e w'' q => ?_
              obtain ⟨v, rfl, hown, hb⟩ := q
              obtain ⟨a, g, c, rfl, hg, hi⟩ := ints_of_row hown
              exact ⟨a, g, c, by rw [List.length_map], hg, hi, hb⟩
            obtain ⟨aK, gK, cK, rfl, hgK, hiK⟩ := ints_of_row HX.out.own
            have HIK : Hid (Ints wr aK gK (minK xs ws P (P.map odd) (newK xs ws P P.length) P.length)) := hiK
            have HGK : Hid (w.heap.size + 2 ≤ gK) := by have := HSZ.out; have := (HWU.out U (Below.refl _ _)).size; have := HCB.out; show w.heap.size + 2 ≤ gK; omega
            have hrl : (roots.map (fwd (P.map odd) (newK xs ws P P.length))).length = roots.length := List.length_map _
            generalize roots.map (fwd (P.map odd) (newK xs ws P P.length)) = R2 at HFR HYES hrl
            have HRL2 : Hid (R2.length = roots.length) := hrl
            generalize minK xs ws P (P.map odd) (newK xs ws P P.length) P.length = M at HX HIK HYES
            have HXK : Hid (∀ w', Below wr.heap.size wr w' → w'.cell? ⟨cb, 0, none⟩ = some (.int .i64 z) ∧ w'.cell? ⟨cb, 1, none⟩ = some (.slice aK M.length cK)) := fun w' h => ⟨(HX.out.later h).c0, (HX.out.later h).c1⟩
            have HXE : Hid (∀ w', Below wr.heap.size wr w' → ∀ x0 x1, ((w'.setCell ⟨w.heap.size + 1, 0, none⟩ x0).setCell ⟨w.heap.size + 1, 1, none⟩ x1).cell? ⟨cb, 0, none⟩ = some (.int .i64 z) ∧ ((w'.setCell ⟨w.heap.size + 1, 0, none⟩ x0).setCell ⟨w.heap.size + 1, 1, none⟩ x1).cell? ⟨cb, 1, none⟩ = some (.slice aK M.length cK)) := fun w' h x0 x1 => by
              have hne : w.heap.size + 1 ≠ cb := by have := HSZ.out; have := (HWU.out U (Below.refl _ _)).size; have := HCB.out; omega
              obtain ⟨q0, q1⟩ := HXK.out w' h
              exact ⟨by rw [World.cell?_setCell_other _ _ _ _ (cell_ne2 _ _ _ _ hne), World.cell?_setCell_other _ _ _ _ (cell_ne2 _ _ _ _ hne)]; exact q0, by rw [World.cell?_setCell_other _ _ _ _ (cell_ne2 _ _ _ _ hne), World.cell?_setCell_other _ _ _ _ (cell_ne2 _ _ _ _ hne)]; exact q1⟩
            obtain ⟨c0, c1⟩ := HXK.out wr (Below.refl _ _)
            have hacc : Below wr.heap.size wr wr.drew := (Below.refl _ _).drew
            generalize roots.length = rl at HFR HRL2
            clear hgK hiK hrl
            go_wp2_with fail
            go_region_held3 (fun w' => w'.cell? ⟨cb, 0, none⟩ = some (.int .i64 z) ∧ w'.cell? ⟨cb, 1, none⟩ = some (.slice aK M.length cK)) (first | with_reducible exact HXK.out _ hacc | exact HXE.out _ hacc _ _)
              (first | (go_at_call 48; refine (HFR.out _ hacc).mono ?_; rintro e wF ⟨aF, gF, cF, rfl, hgF, hiF, hbF⟩; have hac2 : Below wr.heap.size wr wF := hacc.trans (hbF.mono hacc.size); clear hacc; have hacc := hac2; clear hac2; obtain ⟨r0, r1, rf⟩ := HRC.out wF (HWR.out wF hacc); have z0 := rf 0; have z1 := rf 1))
            all_goals
              have HP2 : Hid (∀ x0 x1, _) := two_put r0 r1
              have HFF : Hid (Ints wF aF gF R2) := hiF
              have HGF : Hid (wr.heap.size ≤ gF) := hgF
              have HAC : Hid (Below wr.heap.size wr wF) := hacc
              clear hiF hgF hacc rf hbF
              go_wp2_with fail
              refine bodyPost_ret (v := .tuple #[.agg #[.int .i64 z, .slice aK M.length cK], .slice aF rl cF, .bool true]) ?_ rfl (HYES.out _ _ ?_)
              · obtain ⟨q0, q1⟩ := HP2.out (.int .i64 z) (.slice aK M.length cK)
                simp [results, Try.results23, go_sem, q0, q1]
              · have hgk := HGK.out
                have hgf := HGF.out
                have hbw := HBW.out
                have hsz := HSZ.out
                exact ⟨aK, gK, cK, aF, gF, cF, by rw [HRL2.out], by omega, by omega, ((HIK.out.below HAC.out).grown (grown_set _ _ _ _) (by omega)).grown (grown_set _ _ _ _) (by omega), (HFF.out.grown (grown_set _ _ _ _) (by omega)).grown (grown_set _ _ _ _) (by omega), fun h0 => by have := HIK.out.lt h0; omega, HBE.out _ (HWR.out _ HAC.out) _ _⟩
end Go.Proofs.Ytngpmohmnpbcnaa.mi
