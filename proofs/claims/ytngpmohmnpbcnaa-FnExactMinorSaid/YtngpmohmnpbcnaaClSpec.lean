/-
  What is reached in a nursery, by the specification.
-/
import Derived.Test.YtngpmohmnpbcnaaClPush
import Derived.Test.YtngpmohmnpbcnaaYSpec4
import Derived.Deep.Cut
import Derived.Deep.CutRange
import Derived.Deep.DeepCutAuto
import Derived.Deep.RegionHeld3
namespace Go.Proofs.Ytngpmohmnpbcnaa.cl
open Go.RowKit
open kinds ints ref obj nu

theorem refsL_sub (s : ByteArray) (vs : List Int) (j n : Nat) (h : j ≤ n) : ∀ y ∈ refsL s vs j, y ∈ refsL s vs n := by
  induction n with
  | zero => rw [show j = 0 by omega]; exact fun y hy => hy
  | succ n ih =>
    by_cases e : j = n + 1
    · rw [e]; exact fun y hy => hy
    · intro y hy
      rw [refsL]
      split
      · exact List.mem_append_left _ (ih (by omega) y hy)
      · exact ih (by omega) y hy
theorem among_sub {l m : List Int} (h : ∀ y ∈ l, y ∈ m) : ∀ y ∈ yAmong l, y ∈ yAmong m := fun y hy => by
  unfold yAmong at hy ⊢
  rw [List.mem_filter] at hy ⊢
  exact ⟨h y hy.1, hy.2⟩
set_option maxHeartbeats 4000000 in
set_option maxRecDepth 20000 in
theorem spec_l8clos (w : World) (a : Option Addr) (cap : Nat) (xs : List ByteArray) (z : Int) (a2 : Option Addr) (n vcap : Nat) (ws : List Int) (ra : Option Addr) (rc : Nat) (roots : List Int) (hx : ws.length = n) (hcap : n ≤ vcap) (hxn : xs.length ≤ 1048576) (hl : Strs w a xs) (hv : Nums w a2 ws) (hrt : Nums w ra roots) (hr4 : roots.length ≤ 400) (hok : nurB xs z ws = true) (hnm : allNamedB (startsN xs z ws) roots = true) :
    Calls Try.prog 38 #[.slice a xs.length cap, .agg #[.int .i64 z, .slice a2 n vcap], .slice ra roots.length rc] w fun e w' => AOut (fun s => s) (clR xs ws (startsN xs z ws).length roots) w e w' := by
  obtain ⟨hpre, _, hnames⟩ := nurB_found hok
  obtain ⟨htp, _, hz4, hzl⟩ := preN_facts hpre
  have h23 : ∀ i (hi : i < xs.length), 1 ≤ xs[i].size ∧ xs[i].size ≤ 23 := by
    have h1 := htp
    unfold typesOk at h1
    rw [Bool.and_eq_true, List.all_eq_true] at h1
    exact fun i hi => isType_size (h1.2 _ (List.getElem_mem hi))
  obtain ⟨L, hL⟩ : ∃ L, L = startsN xs z ws := ⟨_, rfl⟩
  have hgood : ∀ x ∈ L, stepN xs ws x ≠ 0 := by rw [hL]; exact starts_step xs z ws
  have hLn : L.length ≤ n := by rw [hL, ← hx]; exact starts_len xs z ws
  rw [← hL] at hnames hnm ⊢
  obtain ⟨W, hW⟩ : ∃ W, W = w.alloc (.cells #[.int .i64 z, .slice a2 n vcap] 31) := ⟨_, rfl⟩
  have HW : Hid (W = w.alloc (.cells #[.int .i64 z, .slice a2 n vcap] 31)) := hW
  obtain ⟨hb0, hsz, c0, c1⟩ := box2 w z a2 n vcap W hW
  have HB0 : Hid (Below w.heap.size w W) := hb0
  have hlW := hl.below hb0
  have hvW := hv.below hb0
  have hrW := hrt.below hb0
  have HCS : Hid (∀ w', Below W.heap.size W w' → w'.cell? ⟨w.heap.size, 0, none⟩ = some (.int .i64 z) ∧ w'.cell? ⟨w.heap.size, 1, none⟩ = some (.slice a2 n vcap)) := fun w' h =>
    ⟨by rw [h.cell (p := ⟨w.heap.size, 0, none⟩) (by show w.heap.size < _; omega)]; exact c0, by rw [h.cell (p := ⟨w.heap.size, 1, none⟩) (by show w.heap.size < _; omega)]; exact c1⟩
  have HLS : Hid (∀ w', Below W.heap.size W w' → Strs w' a xs) := fun w' h => hlW.below h
  have HRN : Hid (∀ w', Below W.heap.size W w' → Nums w' ra roots) := fun w' h => hrW.below h
  have HOB : Hid (∀ aa, aa ∈ L → ∀ w', Below W.heap.size W w' → Calls _ _ _ w' _) := fun aa ha w' h => spec_l8obj w' a cap xs z a2 n vcap ws aa hx (by omega) hcap hxn (hlW.below h) (hvW.below h) h23 (hgood aa ha)
  have HPL : Hid (∀ (w' : World) (sa : Option Addr) (sc : Nat) (Q : List Int) (q : Int), Q.length ≤ 1048576 → Nums w' sa Q → Calls _ _ _ w' _) := fun w' sa sc Q q hq1 hq => place_any w' sa Q.length sc Q q rfl hq1 hq
  have HGD : Hid (∀ x ∈ L, stepN xs ws x ≠ 0) := hgood
  have HXL : Hid (ws.length = n) := hx
  have H23 : Hid (∀ i (hi : i < xs.length), 1 ≤ xs[i].size ∧ xs[i].size ≤ 23) := h23
  have HNN : Hid (∀ r, GoodR L r → ∀ y ∈ nmR xs ws r, GoodR L y) := fun r hr => nmR_good hnames hr
  have HGR : Hid (∀ r ∈ yAmong roots, GoodR L r) := among_good hnm
  have HLL : Hid (L.length ≤ 400) := by show L.length ≤ 400; omega
  have HR4 : Hid (roots.length ≤ 400) := hr4
  have HWK : Hid (Wk (GoodR L) (nmR xs ws) L.length (clR xs ws L.length roots) 0 (findN [] (yAmong roots))) := Wk.start (among_good hnm)
  have HXN : Hid (xs.length ≤ 1048576) := hxn
  obtain ⟨R, hR⟩ : ∃ R, R = clR xs ws L.length roots := ⟨_, rfl⟩
  rw [← hR] at HWK ⊢
  obtain ⟨X, hX⟩ : ∃ X, X = W.alloc (.cells #[] 2) := ⟨_, rfl⟩
  have HX : Hid (X = W.alloc (.cells #[] 2)) := hX
  have HBX : Hid (Below W.heap.size W X) := by
    have h1 : Below W.heap.size W X := by rw [hX]; exact (Below.refl _ _).alloc (Nat.le_refl _) _
    exact h1
  have HO0 : Hid (X.ownsRow W.heap.size 2 1 (.slice (some ⟨W.heap.size, 0, none⟩) 0 0) (findN [] (yAmong (roots.take 0))).length ((findN [] (yAmong (roots.take 0))).map (Value.int .i64))) := ⟨rfl, .inr ⟨W.heap.size, 0, #[], rfl, Nat.le_refl _, by rw [hX]; exact heap_alloc_last W _, Nat.le_refl _, Nat.zero_le _, rfl, rfl⟩⟩
  clear hW hl hv hrt hb0 hlW hvW hrW hx hcap hxn hsz hgood hLn hL hnames hnm hok hpre htp hz4 hzl h23 hX hr4 hR c0 c1
  go_enter Try.func38, Try.ntmps38
  go_wp2_with (first | (rw [← HW.out]) | (rw [← HX.out]))
  go_loopw [7, 8] (fun v i wr => ∃ k : Nat, k ≤ roots.length ∧ i = .int .i64 (k : Int) ∧ wr.ownsRow W.heap.size 2 1 v (findN [] (yAmong (roots.take k))).length ((findN [] (yAmong (roots.take k))).map (Value.int .i64)) ∧ Below W.heap.size W wr) (fun _ i _ => roots.length - (intOf i).toNat)
  case atStart => exact ⟨0, Nat.zero_le _, rfl, HO0.out, HBX.out⟩
  case round =>
    obtain ⟨k, hk, rfl, hown, hb⟩ := hrel
    have HOW : Hid (wr.ownsRow W.heap.size 2 1 u7 (findN [] (yAmong (roots.take k))).length ((findN [] (yAmong (roots.take k))).map (Value.int .i64))) := hown
    have HB : Hid (Below W.heap.size W wr) := hb
    clear hown hb
    by_cases hlt : k < roots.length
    · have hlti : (k : Int) < (roots.length : Int) := by omega
      have hk4 : k ≤ 400 := by have := HR4.out; omega
      have hk0 : (0 : Int) ≤ (k : Int) := by omega
      obtain ⟨b5, o5, rfl, e5⟩ := HRN.out wr HB.out k hlt
      have HTK : Hid (findN [] (yAmong (roots.take (k + 1))) = if refKind roots[k] = 2 then pushN (findN [] (yAmong (roots.take k))) roots[k] else findN [] (yAmong (roots.take k))) := by
        show findN [] (yAmong (roots.take (k + 1))) = _
        rw [List.take_succ_eq_append_getElem hlt, yAmong_snoc]
        split
        · rw [findN_snoc]
        · rfl
      have HRK : Hid (∀ w, Calls _ _ _ w _) := fun w => specRefKind roots[k] w
      have hQl : (findN [] (yAmong (roots.take k))).length ≤ 1048576 := by
        have h1 : (findN [] (yAmong (roots.take k))).length ≤ L.length := goodR_len (findN_nodup List.nodup_nil) (findN_sub (fun _ h => by cases h) (fun r hr => HGR.out r (by
          unfold yAmong at hr ⊢
          rw [List.mem_filter] at hr ⊢
          exact ⟨List.mem_of_mem_take hr.1, hr.2⟩)))
        have := HLL.out
        omega
      have HQL : Hid ((findN [] (yAmong (roots.take k))).length ≤ 1048576) := hQl
      generalize findN [] (yAmong (roots.take k)) = Q at HOW HTK HQL
      generalize roots[k] = x at e5 HTK HRK
      obtain ⟨aq, gq, cq, rfl, hgq, hiq⟩ := ints_of_row HOW.out
      have HPX : Hid (∀ w, w = wr → Calls Try.prog 64 #[.slice aq Q.length cq, .int .i64 x] w fun e w' => e = .returned (.int .i64 (seekI x Q Q.length)) ∧ w = w') := fun w' q => HPL.out w' aq cq Q x HQL.out (q ▸ hiq.nums)
      have hsk := seek_has x Q
      clear hgq hiq hQl
      by_cases hk2 : refKind x = 2
      · have hke : (refKind x == 2) = true := by simpa using hk2
        rw [if_pos hk2] at HTK
        generalize refKind x = rk at HRK hke hk2
        generalize seekI x Q Q.length = q at HPX hsk
        clear hk2
        by_cases hq : q < 0
        · have hqd : decide (q < 0) = true := decide_eq_true hq
          have HPN : Hid (pushN Q x = Q ++ [x]) := by show pushN Q x = _; unfold pushN; rw [if_neg (fun h => by have := hsk.2 h; omega)]
          rw [HPN.out] at HTK
          clear hsk
          go_wp2_with fail
          refine (HRK.out _).mono ?_
          rintro e w2 ⟨rfl, rfl⟩
          go_wp2_with fail
          refine (HPX.out _ rfl).mono ?_
          rintro e w2 ⟨rfl, rfl⟩
          go_wp2_with (refine wpList_push _ (by rfl) _ _ (by rfl) W.heap.size (.slice aq Q.length cq) Q x HOW.out (by rfl) (by rfl) HQL.out HB.out.size ?_; intro g2 c2 w6 hown6 hb6 hB6; have HO6 : Hid (_) := hown6; have HB6 : Hid (Below W.heap.size W w6) := HB.out.trans hb6; clear hown6 hb6 hB6)
          go_roundw
          case rel => exact ⟨k + 1, by omega, by go_num, by rw [HTK.out]; exact HO6.out, HB6.out⟩
          case measure => simp [intOf]; omega
        · have hqd : decide (q < 0) = false := decide_eq_false hq
          have HPN : Hid (pushN Q x = Q) := by show pushN Q x = _; unfold pushN; rw [if_pos (hsk.1 (by omega))]
          rw [HPN.out] at HTK
          clear hsk
          go_wp2_with fail
          refine (HRK.out _).mono ?_
          rintro e w2 ⟨rfl, rfl⟩
          go_wp2_with fail
          refine (HPX.out _ rfl).mono ?_
          rintro e w2 ⟨rfl, rfl⟩
          go_wp2
          go_roundw
          case rel => exact ⟨k + 1, by omega, by go_num, by rw [HTK.out]; exact HOW.out, HB.out⟩
          case measure => simp [intOf]; omega
      · have hke : (refKind x == 2) = false := by simpa using hk2
        rw [if_neg hk2] at HTK
        generalize refKind x = rk at HRK hke
        clear hk2 hsk HPX
        go_wp2_with fail
        refine (HRK.out _).mono ?_
        rintro e w2 ⟨rfl, rfl⟩
        go_wp2
        go_roundw
        case rel => exact ⟨k + 1, by omega, by go_num, by rw [HTK.out]; exact HOW.out, HB.out⟩
        case measure => simp [intOf]; omega
    · obtain rfl : k = roots.length := by omega
      rw [List.take_length] at HOW
      clear HO0 HBX HX HRN
      go_wp2
      go_loopw [7, 9] (fun v i wr => ∃ (k : Nat) (Q : List Int), k ≤ Q.length ∧ i = .int .i64 (k : Int) ∧ Wk (GoodR L) (nmR xs ws) L.length R k Q ∧ wr.ownsRow W.heap.size 2 1 v Q.length (Q.map (Value.int .i64)) ∧ Below W.heap.size W wr) (fun _ i _ => L.length - (intOf i).toNat)
      case atStart => exact ⟨0, _, Nat.zero_le _, rfl, HWK.out, HOW.out, HB.out⟩
      case round =>
        clear HOW HB HWK
        obtain ⟨k, Q, hk, rfl, hwk, hown, hb⟩ := hrel
        have HOW : Hid (wr.ownsRow W.heap.size 2 1 u7 Q.length (Q.map (Value.int .i64))) := hown
        have HB : Hid (Below W.heap.size W wr) := hb
        have HWK : Hid (Wk (GoodR L) (nmR xs ws) L.length R k Q) := hwk
        have hql := goodR_len hwk.nd hwk.good
        have HQL : Hid (Q.length ≤ L.length) := hql
        clear hown hb hwk
        by_cases hlt : k < Q.length
        · have hlti : (k : Int) < (Q.length : Int) := by omega
          have hk0 : (0 : Int) ≤ (k : Int) := by omega
          have hgr := HWK.out.good _ (List.getElem_mem hlt)
          have HNX : Hid (Wk (GoodR L) (nmR xs ws) L.length R (k + 1) (findN Q (nmR xs ws Q[k]))) := HWK.out.step hlt hql HNN.out
          have hng : ∀ l, (∀ y ∈ l, y ∈ refsA xs ws (Q[k] / 2).toNat) → (findN Q (yAmong l)).length ≤ L.length := fun l hl => goodR_len (findN_nodup HWK.out.nd) (findN_sub HWK.out.good (fun y hy => HNN.out _ hgr y (among_sub hl y hy)))
          unfold nmR at HNX
          obtain ⟨aq, gq, cq, rfl, hgq, hiq⟩ := ints_of_row HOW.out
          obtain ⟨rfl, e5, _⟩ := hiq k hlt
          have hgql : gq < wr.heap.size := hiq.lt (by omega)
          generalize Q[k] = r at e5 HNX hgr hng
          have hrf := young_facts hgr.1
          have hin := inB_facts hgr.2
          have hq0 : r.tdiv 2 = r / 2 := Int.tdiv_eq_ediv_of_nonneg (by omega)
          obtain ⟨aa, haa⟩ : ∃ aa : Nat, r / 2 = (aa : Int) := ⟨(r / 2).toNat, by omega⟩
          rw [haa] at hq0 hin HNX hng
          rw [Int.toNat_natCast] at hin HNX hng
          have hqw : IntKind.i64.wrap (aa : Int) = (aa : Int) := by rw [IntKind.wrap_i64]; omega
          have HOA := HOB.out aa hin.2
          have hgd := HGD.out aa hin.2
          obtain ⟨hh0, hpb, hfit, _⟩ := stepN_le hgd
          obtain ⟨p, hpe, hpl⟩ := placeB_nat hpb
          have hkd := kdH_at hpl hpe
          have hvl := valsA_len hgd
          rw [hkd] at hvl hfit
          have HRF : Hid (refsA xs ws aa = refsL xs[p] (valsA xs ws aa) xs[p].size) := by show refsA xs ws aa = _; unfold refsA; rw [hkd, hvl]
          rw [HRF.out] at HNX hng
          rw [hpe] at HOA
          have hs23 := H23.out p hpl
          have HSC : Hid (∀ w', Below W.heap.size W w' → ∃ b o, a = some ⟨b, o, none⟩ ∧ w'.cell? ⟨b, o + p, none⟩ = some (.string xs[p])) := fun w' h => HLS.out w' h p hpl
          generalize valsA xs ws aa = vs at HOA HNX hng hvl
          generalize xs[p] = s at HNX hng hvl hs23 HSC
          obtain ⟨m, hm⟩ : ∃ m, m = vs.length := ⟨_, rfl⟩
          have HML : Hid (vs.length = m) := hm.symm
          rw [← hm] at HOA hvl
          have HMS : Hid (m = s.size) := hvl
          have HHA : Hid (∀ w', Below W.heap.size W w' → Calls Try.prog 65 #[.slice a xs.length cap, .agg #[.int .i64 z, .slice a2 n vcap], .int .i64 (aa : Int)] w' fun e w'' => ∃ g c, e = .returned (.agg #[.int .i64 (p : Int), .slice (some ⟨g, 0, none⟩) m c]) ∧ w'.heap.size ≤ g ∧ Ints w'' (some ⟨g, 0, none⟩) g vs ∧ Below w'.heap.size w' w'') := HOA
          have HNG : Hid (∀ j, j ≤ m → (findN Q (yAmong (refsL s vs j))).length ≤ 1048576) := fun j hj => by
            have := HLL.out
            have h2 := hng (refsL s vs j) (refsL_sub s vs j s.size (by omega))
            omega
          have HPI : Hid ((p : Int) < (xs.length : Int)) := by show (p : Int) < _; omega
          clear hgd hh0 hpb hfit hpe hpl hkd hvl HOA hm hgq hiq hgr hng hrf hin haa HRF
          have HCUA : Hid (∀ w', Below wr.heap.size wr w' → Below W.heap.size W w') := fun w' h => HB.out.trans (h.mono HB.out.size)
          have HCK : Hid (∀ w', Below wr.heap.size wr w' → w'.cell? ⟨w.heap.size, 0, none⟩ = some (.int .i64 z) ∧ w'.cell? ⟨w.heap.size, 1, none⟩ = some (.slice a2 n vcap) ∧ w'.cell? ⟨gq, k, none⟩ = some (.int .i64 r)) := fun w' h => ⟨(HCS.out _ (HCUA.out _ h)).1, (HCS.out _ (HCUA.out _ h)).2, by rw [h.cell (p := ⟨gq, k, none⟩) hgql]; exact e5⟩
          have hacc : Below wr.heap.size wr wr.drew := (Below.refl _ _).drew
          have HZ1 : Hid (Below wr.heap.size wr (wr.alloc (.cells #[.int .i64 0, .slice none 0 0] 52)).drew) := ((Below.refl _ _).alloc (Nat.le_refl _) _).drew
          have HZ2 : Hid (Pair wr (wr.alloc (.cells #[.int .i64 0, .slice none 0 0] 52)).drew) := (Pair.start wr _).later (Below.refl _ _).drew
          go_upto_region 10 with fail
          go_cut [10] (fun pv wx => ∃ (B g c : Nat), pv = .pointer (some ⟨B, 0, none⟩) ∧ wr.heap.size ≤ B ∧ (0 < vs.length → wr.heap.size ≤ g) ∧ OVar B (p : Int) (some ⟨g, 0, none⟩) g m c vs wx ∧ Below wr.heap.size wr wx)
          case first =>
            go_region_held3 (fun w' => w'.cell? ⟨w.heap.size, 0, none⟩ = some (.int .i64 z) ∧ w'.cell? ⟨w.heap.size, 1, none⟩ = some (.slice a2 n vcap) ∧ w'.cell? ⟨gq, k, none⟩ = some (.int .i64 r)) (first | with_reducible exact HCK.out _ hacc | with_reducible exact HCK.out _ HZ1.out | with_reducible exact HCK.out _ (hacc.alloc hacc.size _) | with_reducible exact HCK.out _ ((hacc.setCell (p := ⟨wr.heap.size, 0, none⟩) (Nat.le_refl _) _).setCell (p := ⟨wr.heap.size, 1, none⟩) (Nat.le_refl _) _))
              (first | (go_at_call 65; refine (HHA.out _ (HCUA.out _ HZ1.out)).mono ?_; rintro eR wR ⟨gR, cR, rfl, hgX, hinR, hbX⟩; clear hacc; have hacc : Below wr.heap.size wr wR := HZ1.out.trans (hbX.mono HZ1.out.size); have hgT := Nat.lt_of_lt_of_le HZ2.out.lt hgX; have hPR := HZ2.out.later hbX; clear hbX hgX; have v0 := hPR.cell 0 _ rfl; have v1 := hPR.cell 1 _ rfl; have z0 := hPR.free 0; have z1 := hPR.free 1) | (go_at_call 65; refine (HHA.out _ (HCUA.out _ hacc)).mono ?_; rintro eR wR ⟨gR, cR, rfl, hgX, hinR, hbX⟩; have hac2 : Below wr.heap.size wr wR := hacc.trans (hbX.mono hacc.size); have hgT : wr.heap.size ≤ gR := hgX; clear hacc; have hacc := hac2; clear hac2 hbX hgX))
            all_goals
              go_wp2_with fail
              go_meet
              first
                | exact ⟨_, gR, cR, rfl, Nat.le_refl _, fun _ => Nat.le_of_lt hgT, ovar_put hPR hinR hgT HML.out, (hacc.setCell (p := ⟨wr.heap.size, 0, none⟩) (Nat.le_refl _) _).setCell (p := ⟨wr.heap.size, 1, none⟩) (Nat.le_refl _) _⟩
                | exact ⟨_, gR, cR, rfl, hacc.size, fun _ => hgT, OVar.start wR (p : Int) _ gR m cR vs _ HML.out hinR, hacc.alloc hacc.size _⟩
          case rest =>
            obtain ⟨OB, gO, cO, rfl, hOB, hgO, hV, hU⟩ := hcut
            have HV : Hid (OVar OB (p : Int) (some ⟨gO, 0, none⟩) gO m cO vs wc) := hV
            have HBC : Hid (Below W.heap.size W wc) := HCUA.out _ hU
            have HOC : Hid (wc.ownsRow W.heap.size 2 1 (.slice (some ⟨gq, 0, none⟩) Q.length cq) (findN Q (yAmong (refsL s vs 0))).length ((findN Q (yAmong (refsL s vs 0))).map (Value.int .i64))) := row_kept HOW.out (grown_below none hU) (fun _ _ _ q => by cases q)
            have HNE : Hid (∀ r, Value.ownBlock (.slice (some ⟨gq, 0, none⟩) Q.length cq) = some r → OB ≠ r ∧ (0 < vs.length → gO ≠ r)) := fun r q => by
              have q2 : some gq = some r := q
              injection q2 with q3
              subst q3
              exact ⟨by omega, fun h => by have := hgO h; omega⟩
            have hkk : k < Q.length := hlt
            have HKK : Hid (k < Q.length) := hkk
            have hm23 : m ≤ 23 := by have := HMS.out; omega
            have hkL : k ≤ 400 := by have := HLL.out; have := HQL.out; omega
            clear hV hU hOB hgO hacc e5 hgql HZ1 HZ2 HHA HCK hqw hq0 hkk
            go_wp2
            go_loopw [7, 11] (fun v i w2 => ∃ j : Nat, j ≤ m ∧ i = .int .i64 (j : Int) ∧ w2.ownsRow W.heap.size 2 1 v (findN Q (yAmong (refsL s vs j))).length ((findN Q (yAmong (refsL s vs j))).map (Value.int .i64)) ∧ (∀ r, v.ownBlock = some r → OB ≠ r ∧ (0 < vs.length → gO ≠ r)) ∧ OVar OB (p : Int) (some ⟨gO, 0, none⟩) gO m cO vs w2 ∧ Below W.heap.size W w2) (fun _ i _ => m - (intOf i).toNat)
            case atStart => exact ⟨0, Nat.zero_le _, rfl, HOC.out, HNE.out, HV.out, HBC.out⟩
            case round =>
              clear HOC HNE HV HBC
              obtain ⟨j, hj, rfl, hown, hne, hV, hb⟩ := hrel
              have HOJ : Hid (wr.ownsRow W.heap.size 2 1 u7 (findN Q (yAmong (refsL s vs j))).length ((findN Q (yAmong (refsL s vs j))).map (Value.int .i64))) := hown
              have HNE : Hid (∀ r, u7.ownBlock = some r → OB ≠ r ∧ (0 < vs.length → gO ≠ r)) := hne
              have HV : Hid (OVar OB (p : Int) (some ⟨gO, 0, none⟩) gO m cO vs wr) := hV
              have HBJ : Hid (Below W.heap.size W wr) := hb
              have y0 := hV.c0
              have y1 := hV.c1
              clear hown hne hb
              by_cases hlt2 : j < m
              · have HJ : Hid (j < m) := hlt2
                have hjmi : (j : Int) < (m : Int) := by omega
                have hj0 : (0 : Int) ≤ (j : Int) := by omega
                have hj23 : j < 23 := by omega
                have hjs : j < s.size := by have := HMS.out; omega
                have hjsi : (j : Int) < (s.size : Int) := by omega
                have hIR := isR_at s j hjs
                obtain ⟨_, f1, _⟩ := hV.tx j (by have := HML.out; omega)
                rw [getD_of vs j (by have := HML.out; omega)] at f1
                obtain ⟨b2, o2, rfl, s1⟩ := HSC.out wr HBJ.out
                have hpi := HPI.out
                have hp0 : (0 : Int) ≤ (p : Int) := by omega
                have HRS : Hid (refsL s vs (j + 1) = if isR s j = true then refsL s vs j ++ [vs.getD j 0] else refsL s vs j) := rfl
                have HRK : Hid (∀ w, Calls _ _ _ w _) := fun w => specRefKind (vs.getD j 0) w
                have HQJ : Hid ((findN Q (yAmong (refsL s vs j))).length ≤ 1048576) := HNG.out j (by omega)
                clear hV
                generalize vs.getD j 0 = x at f1 HRS HRK
                cases hr : isR s j with
                | false =>
                  rw [hr] at hIR
                  have HTK : Hid (findN Q (yAmong (refsL s vs (j + 1))) = findN Q (yAmong (refsL s vs j))) := by
                    show findN Q (yAmong (refsL s vs (j + 1))) = _
                    rw [HRS.out, hr, if_neg (by decide)]
                  clear hr HRS HRK
                  go_wp2
                  go_roundw
                  case rel => exact ⟨j + 1, by have := HJ.out; omega, by go_num, by rw [HTK.out]; exact HOJ.out, HNE.out, HV.out, HBJ.out⟩
                  case measure => have := HJ.out; simp [intOf]; omega
                | true =>
                  rw [hr] at hIR
                  have HTK : Hid (findN Q (yAmong (refsL s vs (j + 1))) = if refKind x = 2 then pushN (findN Q (yAmong (refsL s vs j))) x else findN Q (yAmong (refsL s vs j))) := by
                    show findN Q (yAmong (refsL s vs (j + 1))) = _
                    rw [HRS.out, hr, if_pos rfl, yAmong_snoc]
                    split
                    · rw [findN_snoc]
                    · rfl
                  clear hr HRS
                  generalize findN Q (yAmong (refsL s vs j)) = P at HOJ HTK HQJ
                  by_cases hk2 : refKind x = 2
                  · have hke : (refKind x == 2) = true := by simpa using hk2
                    rw [if_pos hk2] at HTK
                    obtain ⟨aq, g2, c2, rfl, _, hiq⟩ := ints_of_row HOJ.out
                    have HPX : Hid (∀ w, w = wr → Calls Try.prog 64 #[.slice aq P.length c2, .int .i64 x] w fun e w' => e = .returned (.int .i64 (seekI x P P.length)) ∧ w = w') := fun w' q => HPL.out w' aq c2 P x HQJ.out (q ▸ hiq.nums)
                    have hsk := seek_has x P
                    generalize refKind x = rk at HRK hke hk2
                    generalize seekI x P P.length = q at HPX hsk
                    clear hk2 hiq
                    by_cases hq : q < 0
                    · have hqd : decide (q < 0) = true := decide_eq_true hq
                      have HPN : Hid (pushN P x = P ++ [x]) := by show pushN P x = _; unfold pushN; rw [if_neg (fun h => by have := hsk.2 h; omega)]
                      rw [HPN.out] at HTK
                      clear hsk
                      go_wp2_with fail
                      refine (HRK.out _).mono ?_
                      rintro e w2 ⟨rfl, rfl⟩
                      go_wp2_with fail
                      refine (HPX.out _ rfl).mono ?_
                      rintro e w2 ⟨rfl, rfl⟩
                      go_wp2_with (refine wpList_pushG _ (by rfl) _ _ (by rfl) W.heap.size (.slice aq P.length c2) P x HOJ.out (by rfl) (by rfl) HQJ.out HBJ.out.size ?_; intro g3 c3 w6 hown6 hgw hb6 hat; have HO6 : Hid (_) := hown6; have HB6 : Hid (Below W.heap.size W w6) := HBJ.out.trans hb6; have HGW : Hid (_) := hgw; have HAT : Hid (_ ∨ _) := hat; clear hown6 hb6 hgw hat)
                      go_roundw
                      case rel =>
                        refine ⟨j + 1, by have := HJ.out; omega, by go_num, by rw [HTK.out]; exact HO6.out, fun r q => ?_, ovar_kept HV.out HGW.out HNE.out, HB6.out⟩
                        have q2 : some g3 = some r := q
                        injection q2 with q3
                        subst q3
                        rcases HAT.out with h | h
                        · exact HNE.out _ h
                        · have h1 := HV.out.lt
                          exact ⟨by omega, fun h0 => by have := HV.out.tx.lt h0; omega⟩
                      case measure => have := HJ.out; simp [intOf]; omega
                    · have hqd : decide (q < 0) = false := decide_eq_false hq
                      have HPN : Hid (pushN P x = P) := by show pushN P x = _; unfold pushN; rw [if_pos (hsk.1 (by omega))]
                      rw [HPN.out] at HTK
                      clear hsk
                      go_wp2_with fail
                      refine (HRK.out _).mono ?_
                      rintro e w2 ⟨rfl, rfl⟩
                      go_wp2_with fail
                      refine (HPX.out _ rfl).mono ?_
                      rintro e w2 ⟨rfl, rfl⟩
                      go_wp2
                      go_roundw
                      case rel => exact ⟨j + 1, by have := HJ.out; omega, by go_num, by rw [HTK.out]; exact HOJ.out, HNE.out, HV.out, HBJ.out⟩
                      case measure => have := HJ.out; simp [intOf]; omega
                  · have hke : (refKind x == 2) = false := by simpa using hk2
                    rw [if_neg hk2] at HTK
                    generalize refKind x = rk at HRK hke
                    clear hk2
                    go_wp2_with fail
                    refine (HRK.out _).mono ?_
                    rintro e w2 ⟨rfl, rfl⟩
                    go_wp2
                    go_roundw
                    case rel => exact ⟨j + 1, by have := HJ.out; omega, by go_num, by rw [HTK.out]; exact HOJ.out, HNE.out, HV.out, HBJ.out⟩
                    case measure => have := HJ.out; simp [intOf]; omega
              · obtain rfl : j = m := by omega
                have HNX2 : Hid (Wk (GoodR L) (nmR xs ws) L.length R (k + 1) (findN Q (yAmong (refsL s vs j)))) := by
                  have h1 := HNX.out
                  rw [← HMS.out] at h1
                  exact h1
                have HLE : Hid (k + 1 ≤ (findN Q (yAmong (refsL s vs j))).length) := by
                  have h1 := findN_len (yAmong (refsL s vs j)) Q
                  have h2 := HKK.out
                  show k + 1 ≤ _
                  omega
                clear hV
                go_wp2
                go_roundw
                case rel => exact ⟨k + 1, _, HLE.out, by go_num, HNX2.out, HOJ.out, HBJ.out⟩
                case measure => have := HKK.out; have := HQL.out; simp [intOf]; omega
        · have hQR : Q = R := HWK.out.stop (by omega)
          rw [hQR] at HOW
          obtain ⟨aq, gq, cq, rfl, hgq, hiq⟩ := ints_of_row HOW.out
          have HIQ : Hid (Ints wr aq gq R) := hiq
          have HGQ : Hid (w.heap.size ≤ gq) := by have := HB0.out.size; show w.heap.size ≤ gq; omega
          have HBE : Hid (Below w.heap.size w wr) := HB0.out.trans (HB.out.mono HB0.out.size)
          have hkq : k = R.length := by rw [← hQR]; omega
          subst hQR
          clear hgq hiq
          go_wp2
          go_ret
          exact ⟨aq, gq, cq, rfl, HGQ.out, HIQ.out, HBE.out⟩
end Go.Proofs.Ytngpmohmnpbcnaa.cl
