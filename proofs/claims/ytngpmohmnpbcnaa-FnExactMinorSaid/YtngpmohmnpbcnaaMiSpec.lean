/-
  A collection of a nursery, by the specification.
-/
import Derived.Test.YtngpmohmnpbcnaaMiAns
import Derived.Lib.MinMax
import Derived.Deep.Cut
import Derived.Deep.CutRange
import Derived.Deep.DeepCutAuto
import Derived.Deep.RegionLaw
namespace Go.Proofs.Ytngpmohmnpbcnaa.mi
open Go.RowKit
open kinds ints ref obj nu cl

theorem obj_vals (t : Int) (a : Option Addr) (n c : Nat) (w : World) : (Instr.field 52 (.agg #[.int .i64 t, .slice a n c]) 1).run Try.prog w = .ok (.slice a n c) w := by kernel_rfl
theorem l4_at {xs : List ByteArray} {ws : List Int} {L : List Nat} {P : List Int} (h : Kept xs ws L P) (aa : Nat) (ha : aa ∈ L) (w : World) (a : Option Addr) (cap : Nat) (b : Option Addr) (vcap : Nat) (c d : Option Addr) (cc cd : Nat) (h23 : ∀ i (hi : i < xs.length), 1 ≤ xs[i].size ∧ xs[i].size ≤ 23) (hl : Strs w a xs) (hvs : Nums w b (valsA xs ws aa)) (hc : Nums w c (P.map odd)) (hd : Nums w d (newK xs ws P P.length)) :
    Calls Try.prog 76 #[.slice a xs.length cap, .agg #[.int .i64 (ws.getD aa 0 / 4), .slice b (valsA xs ws aa).length vcap], .slice c P.length cc, .slice d P.length cd] w fun e w' => FOut (ws.getD aa 0 / 4) (valsA xs ws aa).length (fwdL (fwd (P.map odd) (newK xs ws P P.length)) (kdH xs (ws.getD aa 0)) (valsA xs ws aa) (valsA xs ws aa).length) w e w' := by
  have hgd := h.step aa ha
  obtain ⟨hh0, hpb, hfit, _⟩ := stepN_le hgd
  obtain ⟨q, hpe, hpl⟩ := placeB_nat hpb
  have hvl := valsA_len hgd
  have hl4 := h.len
  have hkd := kdH_at hpl hpe
  rw [hkd] at hvl ⊢
  have := l4fwd_any w a cap xs q b vcap (valsA xs ws aa) c d cc cd (P.map odd) (newK xs ws P P.length) hl hpl hvl (by have := (h23 q hpl).2; omega) hvs (by rw [List.length_map]; omega) (by rw [List.length_map, newK_len]) hc hd
  rw [List.length_map, newK_len] at this
  rw [hpe]
  exact this
set_option maxHeartbeats 10000000 in
set_option maxRecDepth 20000 in
theorem spec_l8minor (w : World) (a : Option Addr) (cap : Nat) (xs : List ByteArray) (z : Int) (a2 : Option Addr) (n vcap : Nat) (ws : List Int) (ra : Option Addr) (rc : Nat) (roots : List Int) (hx : ws.length = n) (hcap : n ≤ vcap) (hxn : xs.length ≤ 1048576) (hl : Strs w a xs) (hv : Nums w a2 ws) (hrt : Nums w ra roots) (hok : rootsB xs z ws roots = true) :
    Calls Try.prog 44 #[.slice a xs.length cap, .agg #[.int .i64 z, .slice a2 n vcap], .slice ra roots.length rc] w fun e w' => ∃ a g c b h d, e = .returned (.tuple #[.agg #[.int .i64 z, .slice a (minW xs z ws roots).length c], .slice b (minM xs z ws roots).length d]) ∧ w.heap.size ≤ g ∧ w.heap.size ≤ h ∧ Ints w' a g (minW xs z ws roots) ∧ Ints w' b h (minM xs z ws roots) ∧ (0 < (minW xs z ws roots).length → g < h) ∧ Below w.heap.size w w' := by
  obtain ⟨hnur, hr4, hnm⟩ := rootsB_in hok
  obtain ⟨hpre, _, hnames⟩ := nurB_found hnur
  obtain ⟨htp, _, hz4, hzl⟩ := preN_facts hpre
  have h23 : ∀ i (hi : i < xs.length), 1 ≤ xs[i].size ∧ xs[i].size ≤ 23 := by
    have h1 := htp
    unfold typesOk at h1
    rw [Bool.and_eq_true, List.all_eq_true] at h1
    exact fun i hi => isType_size (h1.2 _ (List.getElem_mem hi))
  have HKP : Hid (Kept xs ws (startsN xs z ws) (minP xs z ws roots)) := kept_of hok
  have hWE : minW xs z ws roots = minK xs ws (minP xs z ws roots) ((minP xs z ws roots).map odd) (newK xs ws (minP xs z ws roots) (minP xs z ws roots).length) (minP xs z ws roots).length := by unfold minW; rw [if_pos hok]; rfl
  have hME : minM xs z ws roots = roots.map (fwd ((minP xs z ws roots).map odd) (newK xs ws (minP xs z ws roots) (minP xs z ws roots).length)) := by unfold minM; rw [if_pos hok]; rfl
  rw [hWE, hME]
  obtain ⟨W, hW⟩ : ∃ W, W = (w.alloc (.cells #[.int .i64 z, .slice a2 n vcap] 31)).alloc (.cells #[.int .i64 0, .slice none 0 0] 31) := ⟨_, rfl⟩
  have HW : Hid (W = (w.alloc (.cells #[.int .i64 z, .slice a2 n vcap] 31)).alloc (.cells #[.int .i64 0, .slice none 0 0] 31)) := hW
  obtain ⟨hb0, hsz, c0, c1, r0, r1, rf⟩ := box_two _ w z a2 n vcap W hW
  have HK : Hid (∀ w', Below W.heap.size W w' → w'.cell? ⟨w.heap.size, 0, none⟩ = some (.int .i64 z) ∧ w'.cell? ⟨w.heap.size, 1, none⟩ = some (.slice a2 n vcap)) := fun w' h => ⟨by rw [h.cell (p := ⟨w.heap.size, 0, none⟩) (by show w.heap.size < _; omega)]; exact c0, by rw [h.cell (p := ⟨w.heap.size, 1, none⟩) (by show w.heap.size < _; omega)]; exact c1⟩
  have HRC : Hid (∀ w', Below W.heap.size W w' → w'.cell? ⟨w.heap.size + 1, 0, none⟩ = some (.int .i64 0) ∧ w'.cell? ⟨w.heap.size + 1, 1, none⟩ = some (.slice none 0 0) ∧ ∀ k, w'.frozen? ⟨w.heap.size + 1, k, none⟩ = false) := fun w' h =>
    ⟨by rw [h.cell (p := ⟨w.heap.size + 1, 0, none⟩) (by show w.heap.size + 1 < _; omega)]; exact r0, by rw [h.cell (p := ⟨w.heap.size + 1, 1, none⟩) (by show w.heap.size + 1 < _; omega)]; exact r1, fun k => by rw [h.frozen (p := ⟨w.heap.size + 1, k, none⟩) (by show w.heap.size + 1 < _; omega)]; exact rf k⟩
  have HB0 : Hid (Below w.heap.size w W) := hb0
  have HSZ : Hid (W.heap.size = w.heap.size + 2) := hsz
  have HXL : Hid (ws.length = n) := hx
  have HRL : Hid (roots.length ≤ 400) := hr4
  have HRN : Hid (∀ w', Below W.heap.size W w' → Nums w' ra roots) := fun w' h => (hrt.below hb0).below h
  have HNU : Hid (∀ w', Below W.heap.size W w' → Nums w' a2 ws) := fun w' h => (hv.below hb0).below h
  have HBE : Hid (∀ w', Below W.heap.size W w' → ∀ x0 x1, Below w.heap.size w ((w'.setCell ⟨w.heap.size + 1, 0, none⟩ x0).setCell ⟨w.heap.size + 1, 1, none⟩ x1)) := fun w' h x0 x1 => ((hb0.trans (h.mono hb0.size)).setCell (p := ⟨w.heap.size + 1, 0, none⟩) (by show w.heap.size ≤ w.heap.size + 1; omega) _).setCell (p := ⟨w.heap.size + 1, 1, none⟩) (by show w.heap.size ≤ w.heap.size + 1; omega) _
  have HLC : Hid (Calls Try.prog 38 #[.slice a xs.length cap, .agg #[.int .i64 z, .slice a2 n vcap], .slice ra roots.length rc] W fun e w' => ∃ a g c, e = .returned (.slice a (minP xs z ws roots).length c) ∧ W.heap.size ≤ g ∧ Ints w' a g ((minP xs z ws roots).map odd) ∧ Below W.heap.size W w') := by
    have h1 := spec_l8clos W a cap xs z a2 n vcap ws ra rc roots hx hcap hxn (hl.below hb0) (hv.below hb0) (hrt.below hb0) hr4 hnur hnm
    unfold AOut at h1
    rw [clR_clP, List.length_map] at h1
    exact h1
  have HOB : Hid (∀ aa, aa ∈ startsN xs z ws → ∀ w', Below W.heap.size W w' → Calls _ _ _ w' _) := fun aa ha w' h => spec_l8obj w' a cap xs z a2 n vcap ws aa hx (by omega) hcap hxn ((hl.below hb0).below h) ((hv.below hb0).below h) h23 (HKP.out.step aa ha)
  have HONE : Hid (∀ (aa : Nat), aa ∈ startsN xs z ws → ∀ w', Below W.heap.size W w' → ∀ (b c d : Option Addr) (vcap cc cd : Nat), Nums w' b (valsA xs ws aa) → Nums w' c ((minP xs z ws roots).map odd) → Nums w' d (newK xs ws (minP xs z ws roots) (minP xs z ws roots).length) → Calls _ _ _ w' _) := fun aa ha w' h b c d vcap cc cd q1 q2 q3 => l4_at HKP.out aa ha w' a cap b vcap c d cc cd h23 ((hl.below hb0).below h) q1 q2 q3
  have HFD : Hid (∀ aa, aa ∈ startsN xs z ws → (valsA xs ws aa).length ≤ 23 ∧ 1 ≤ (valsA xs ws aa).length ∧ 0 ≤ ws.getD aa 0 ∧ ws.getD aa 0 / 4 ≤ 1048576 ∧ aa < n ∧ stepN xs ws aa = 1 + (valsA xs ws aa).length) := fun aa ha => by
    have hgd := HKP.out.step aa ha
    obtain ⟨hh0, hpb, hfit, hst⟩ := stepN_le hgd
    obtain ⟨q, hpe, hpl⟩ := placeB_nat hpb
    have hvl := valsA_len hgd
    rw [kdH_at hpl hpe] at hvl hst hfit
    have := h23 q hpl
    omega
  have HCAP : Hid (n ≤ vcap) := hcap
  have hpl := HKP.out.len
  clear hW hl hv hrt hb0 hx hcap hsz r0 r1 rf hWE hME hok hnur hnm hpre hnames htp hz4 hzl h23 hr4
  generalize minP xs z ws roots = P at HKP HLC HONE hpl ⊢
  obtain ⟨MW, hMW⟩ : ∃ MW, MW = minK xs ws P (P.map odd) (newK xs ws P P.length) P.length := ⟨_, rfl⟩
  obtain ⟨MM, hMM⟩ : ∃ MM, MM = roots.map (fwd (P.map odd) (newK xs ws P P.length)) := ⟨_, rfl⟩
  rw [← hMW, ← hMM]
  have HMW : Hid (MW = minK xs ws P (P.map odd) (newK xs ws P P.length) P.length) := hMW
  have HMM : Hid (MM = roots.map (fwd (P.map odd) (newK xs ws P P.length))) := hMM
  have HML : Hid (MM.length = roots.length) := by show MM.length = _; rw [hMM, List.length_map]
  clear hMW hMM
  go_enter Try.func44, Try.ntmps44
  go_wp2_with (rw [← HW.out])
  refine HLC.out.mono ?_
  rintro e w2 ⟨fa, fg, fc, rfl, _, hi2, hb2⟩
  have HB2 : Hid (Below W.heap.size W w2) := hb2
  have HFN : Hid (∀ w', Below w2.heap.size w2 w' → Nums w' fa (P.map odd)) := fun w' h => hi2.nums.below h
  obtain ⟨X, hX⟩ : ∃ X, X = w2.alloc (.cells #[] 2) := ⟨_, rfl⟩
  have HX : Hid (X = w2.alloc (.cells #[] 2)) := hX
  have HBX : Hid (Below w2.heap.size w2 X) := by
    have h1 : Below w2.heap.size w2 X := by rw [hX]; exact (Below.refl _ _).alloc (Nat.le_refl _) _
    exact h1
  have HO0 : Hid (X.ownsRow w2.heap.size 2 1 (.slice (some ⟨w2.heap.size, 0, none⟩) 0 0) (newK xs ws P 0).length ((newK xs ws P 0).map (Value.int .i64))) := ⟨rfl, .inr ⟨w2.heap.size, 0, #[], rfl, Nat.le_refl _, by rw [hX]; exact heap_alloc_last w2 _, Nat.le_refl _, Nat.zero_le _, rfl, rfl⟩⟩
  have HWU : Hid (∀ w', Below w2.heap.size w2 w' → Below W.heap.size W w') := fun w' h => HB2.out.trans (h.mono HB2.out.size)
  clear hi2 hb2 hX c0 c1 HLC
  go_wp2_with (first | (rw [← HX.out]))
  go_loopw [9, 10, 11] (fun v t i wr => ∃ k : Nat, k ≤ P.length ∧ i = .int .i64 (k : Int) ∧ t = .int .i64 (total xs ws (P.take k) : Int) ∧ wr.ownsRow w2.heap.size 2 1 v (newK xs ws P k).length ((newK xs ws P k).map (Value.int .i64)) ∧ Below w2.heap.size w2 wr) (fun _ _ i _ => P.length - (intOf i).toNat)
  case atStart => exact ⟨0, Nat.zero_le _, rfl, rfl, HO0.out, HBX.out⟩
  case round =>
    obtain ⟨k, hk, rfl, rfl, hown, hb⟩ := hrel
    have HOW : Hid (wr.ownsRow w2.heap.size 2 1 u9 (newK xs ws P k).length ((newK xs ws P k).map (Value.int .i64))) := hown
    have HB : Hid (Below w2.heap.size w2 wr) := hb
    clear hown hb
    by_cases hlt : k < P.length
    · have hki : (k : Int) < (P.length : Int) := by omega
      have hk0 : (0 : Int) ≤ (k : Int) := by omega
      have hk4 : k ≤ 400 := by omega
      have HKN : Hid (k < P.length) := hlt
      have hgp := HKP.out.good _ (List.getElem_mem hlt)
      rw [getD_of P k hlt] at hgp
      obtain ⟨hl1, hl2⟩ := HKP.out.lt k hlt
      have hnx := total_next (xs := xs) (ws := ws) k hlt
      have HFC : Hid (∀ w', Below w2.heap.size w2 w' → ∃ b o, fa = some ⟨b, o, none⟩ ∧ w'.cell? ⟨b, o + k, none⟩ = some (.int .i64 (odd (P.getD k 0)))) := fun w' h => by
        obtain ⟨b, o, e, c⟩ := HFN.out w' h k (by rw [List.length_map]; exact hlt)
        refine ⟨b, o, e, ?_⟩
        rw [c, List.getElem_map, getD_of P k hlt]
      generalize P.getD k 0 = p at HFC hgp hl1 hl2 hnx
      obtain ⟨aa, rfl⟩ := Int.eq_ofNat_of_zero_le hgp.1
      rw [Int.toNat_natCast] at hl1 hl2 hnx
      have hal := hgp.2.2
      rw [Int.toNat_natCast] at hal
      have ha9 : aa ≤ 399 := by have := hgp.2.1; omega
      obtain ⟨hv23, hv1, _, _, _, hst⟩ := HFD.out aa hal
      rw [hst] at hl1 hnx
      have HTK : Hid (newK xs ws P (k + 1) = newK xs ws P k ++ [2 * (total xs ws (P.take k) : Int) + 1]) := rfl
      have HTN : Hid (total xs ws (P.take (k + 1)) = total xs ws (P.take k) + (1 + (valsA xs ws aa).length)) := hnx
      have HNL : Hid ((newK xs ws P k).length ≤ 1048576) := by show (newK xs ws P k).length ≤ _; rw [newK_len]; omega
      have HHA : Hid (∀ w', Below W.heap.size W w' → Calls Try.prog 65 #[.slice a xs.length cap, .agg #[.int .i64 z, .slice a2 n vcap], .int .i64 (aa : Int)] w' fun e w'' => ∃ g c, e = .returned (.agg #[.int .i64 (ws.getD aa 0 / 4), .slice (some ⟨g, 0, none⟩) (valsA xs ws aa).length c]) ∧ w'.heap.size ≤ g ∧ Ints w'' (some ⟨g, 0, none⟩) g (valsA xs ws aa) ∧ Below w'.heap.size w' w'') := HOB.out aa hal
      have hod : odd (aa : Int) = 2 * (aa : Int) + 1 := rfl
      rw [hod] at HFC
      have hq0 : (2 * (aa : Int) + 1).tdiv 2 = (aa : Int) := by rw [Int.tdiv_eq_ediv_of_nonneg (by omega)]; omega
      have hqw : IntKind.i64.wrap (aa : Int) = (aa : Int) := by rw [IntKind.wrap_i64]; omega
      generalize valsA xs ws aa = vs at HTN HHA hv23 hv1 hl1
      generalize newK xs ws P k = M at HOW HTK HNL
      generalize total xs ws (P.take k) = tt at HTK HTN hl1
      obtain ⟨vl, hvl⟩ : ∃ vl, vl = vs.length := ⟨_, rfl⟩
      rw [← hvl] at HTN HHA hv23 hv1 hl1
      generalize ws.getD aa 0 / 4 = ty at HHA
      clear hgp hl2 hnx hal hst hod hvl
      obtain ⟨fb, fo, rfl, e5⟩ := HFC.out wr HB.out
      have HFC2 : Hid (∀ w', Below w2.heap.size w2 w' → w'.cell? ⟨fb, fo + k, none⟩ = some (.int .i64 (2 * (aa : Int) + 1))) := fun w' h => by
        obtain ⟨b, o, e, c⟩ := HFC.out w' h
        cases e; exact c
      have hw2 : IntKind.i64.wrap (2 * (tt : Int)) = 2 * (tt : Int) := by rw [IntKind.wrap_i64]; omega
      have hw3 : IntKind.i64.wrap (2 * (tt : Int) + 1) = 2 * (tt : Int) + 1 := by rw [IntKind.wrap_i64]; omega
      have hw4 : IntKind.i64.wrap ((tt : Int) + 1) = (tt : Int) + 1 := by rw [IntKind.wrap_i64]; omega
      have hw5 : IntKind.i64.wrap ((tt : Int) + 1 + (vl : Int)) = (tt : Int) + 1 + (vl : Int) := by rw [IntKind.wrap_i64]; omega
      have HTB : Hid (tt + (1 + vl) ≤ 400) := hl1
      go_wp2_with (refine wpList_push _ (by rfl) _ _ (by rfl) w2.heap.size u9 M (2 * (tt : Int) + 1) HOW.out (by rfl) (by rfl) HNL.out HB.out.size ?_; intro g6 c6 w6 hown6 hb6 hB6; have HO6 : Hid (_) := hown6; have HB6 : Hid (Below w2.heap.size w2 w6) := HB.out.trans hb6; clear hown6 hb6 hB6)
      clear e5
      have HS6 : Hid (∀ w', Below w6.heap.size w6 w' → w'.cell? ⟨w.heap.size, 0, none⟩ = some (.int .i64 z) ∧ w'.cell? ⟨w.heap.size, 1, none⟩ = some (.slice a2 n vcap) ∧ w'.cell? ⟨fb, fo + k, none⟩ = some (.int .i64 (2 * (aa : Int) + 1))) := fun w' h => by
        have h1 := HB6.out.trans (h.mono HB6.out.size)
        obtain ⟨k0, k1⟩ := HK.out w' (HWU.out w' h1)
        exact ⟨k0, k1, HFC2.out w' h1⟩
      have HUB : Hid (∀ w', Below w6.heap.size w6 w' → Below W.heap.size W w') := fun w' h => HWU.out w' (HB6.out.trans (h.mono HB6.out.size))
      obtain ⟨k0, k1, e5⟩ := HS6.out w6 (Below.refl _ _)
      have hfd := obj_vals
      have hacc : Below w6.heap.size w6 w6.drew := (Below.refl _ _).drew
      go_region_held3 (fun w' => w'.cell? ⟨w.heap.size, 0, none⟩ = some (.int .i64 z) ∧ w'.cell? ⟨w.heap.size, 1, none⟩ = some (.slice a2 n vcap) ∧ w'.cell? ⟨fb, fo + k, none⟩ = some (.int .i64 (2 * (aa : Int) + 1))) (first | with_reducible exact HS6.out _ hacc)
        (first | (go_at_call 65; refine (HHA.out _ (HUB.out _ hacc)).mono ?_; rintro e wF ⟨gF, cF, rfl, hgF, hiF, hbF⟩; have hac2 : Below w6.heap.size w6 wF := hacc.trans (hbF.mono hacc.size); clear hacc hbF hgF hiF; have hacc := hac2; clear hac2))
      all_goals
        have HO7 : Hid (wF.ownsRow w2.heap.size 2 1 (.slice (some ⟨g6, 0, none⟩) (M.length + 1) c6) (M ++ [2 * (tt : Int) + 1]).length ((M ++ [2 * (tt : Int) + 1]).map (Value.int .i64))) := row_kept HO6.out (grown_below none hacc) (fun _ _ _ q => by cases q)
        have HB7 : Hid (Below w2.heap.size w2 wF) := HB6.out.trans (hacc.mono HB6.out.size)
        clear hacc hfd k0 k1 e5 hl1
        go_wp2_with fail
        go_roundw
        case rel => exact ⟨k + 1, by have := HKN.out; omega, by go_num, by rw [HTN.out]; have := HTB.out; go_num, by rw [HTK.out]; exact HO7.out, HB7.out⟩
        case measure => have := HKN.out; simp [intOf]; omega
    · obtain rfl : k = P.length := by omega
      obtain ⟨U, rfl⟩ : ∃ X, X = wr := ⟨wr, rfl⟩
      obtain ⟨ta, gT, cT, rfl, hgT, hiT⟩ := ints_of_row HOW.out
      have hnk : (newK xs ws P P.length).length = P.length := newK_len _ _ _ _
      rw [hnk]
      generalize total xs ws (P.take P.length) = tot
      have HWW : Hid (∀ w', Below U.heap.size U w' → Below W.heap.size W w') := fun w' h => HWU.out w' (HB.out.trans (h.mono HB.out.size))
      have HPU : Hid (∀ w', Below U.heap.size U w' → Nums w' fa (P.map odd) ∧ Nums w' ta (newK xs ws P P.length)) := fun w' h => ⟨HFN.out w' (HB.out.trans (h.mono HB.out.size)), hiT.nums.below h⟩
      obtain ⟨cb, hcb⟩ : ∃ cb, cb = U.heap.size := ⟨_, rfl⟩
      obtain ⟨V, hV⟩ : ∃ V, V = U.alloc (.cells #[.int .i64 z, .slice none 0 0] 31) := ⟨_, rfl⟩
      have HV : Hid (V = U.alloc (.cells #[.int .i64 z, .slice none 0 0] 31)) := hV
      have HCB : Hid (cb = U.heap.size) := hcb
      have HC0 : Hid (OBox U cb z [] (.slice none 0 0) V) := by rw [hV, hcb]; exact OBox.start U U z _ (Below.refl _ _)
      obtain ⟨k0, k1⟩ := HK.out U (HWW.out U (Below.refl _ _))
      clear hcb hV hgT hiT hnk HOW HO0 HX HBX
      go_wp2_with (first | (rw [← HV.out, ← HCB.out]) | (rw [← HV.out]))
      try rw [← HCB.out]
      clear k0 k1
      go_loopw [13] (fun i wr => ∃ (k : Nat) (v : Value), k ≤ P.length ∧ i = .int .i64 (k : Int) ∧ OBox U cb z (minK xs ws P (P.map odd) (newK xs ws P P.length) k) v wr) (fun i _ => P.length - (intOf i).toNat)
      case atStart => exact ⟨0, _, Nat.zero_le _, rfl, HC0.out⟩
      case round =>
        obtain ⟨k, v, hk, rfl, hbox⟩ := hrel
        have HX : Hid (OBox U cb z (minK xs ws P (P.map odd) (newK xs ws P P.length) k) v wr) := hbox
        clear hbox
        by_cases hlt : k < P.length
        case neg =>
          obtain rfl : k = P.length := by omega
          obtain ⟨U2, rfl⟩ : ∃ X, X = wr := ⟨wr, rfl⟩
          rw [← HMW.out] at HX
          obtain ⟨aK, gK, cK, rfl, hgK, hiK⟩ := ints_of_row HX.out.own
          have HIK : Hid (Ints U2 aK gK MW) := hiK
          have HWX : Hid (∀ w', Below U2.heap.size U2 w' → Below W.heap.size W w') := fun w' h => HWW.out w' (HX.out.below.trans (h.mono HX.out.below.size))
          have HGK : Hid (w.heap.size + 2 ≤ gK) := by have := HSZ.out; have := (HWW.out U (Below.refl _ _)).size; have := HCB.out; show w.heap.size + 2 ≤ gK; omega
          have HU2 : Hid (W.heap.size ≤ U2.heap.size) := (HWX.out U2 (Below.refl _ _)).size
          have HXK : Hid (∀ w', Below U2.heap.size U2 w' → w'.cell? ⟨cb, 0, none⟩ = some (.int .i64 z) ∧ w'.cell? ⟨cb, 1, none⟩ = some (.slice aK MW.length cK)) := fun w' h => ⟨(HX.out.later h).c0, (HX.out.later h).c1⟩
          have HTO : Hid (∀ (r : Int) (w' : World), Below U2.heap.size U2 w' → Calls Try.prog 77 #[.int .i64 r, .slice fa P.length fc, .slice ta P.length cT] w' fun e w'' => e = .returned (.int .i64 (fwd (P.map odd) (newK xs ws P P.length) r)) ∧ w' = w'') := fun r w' h => by
            obtain ⟨q1, q2⟩ := HPU.out w' (HX.out.below.trans (h.mono HX.out.below.size))
            have h1 := spec_fwd w' fa ta fc cT (P.map odd) (newK xs ws P P.length) r (by rw [List.length_map]; omega) (by rw [List.length_map, newK_len]) q1 q2
            rw [List.length_map, newK_len] at h1
            exact h1
          obtain ⟨X3, hX3⟩ : ∃ X3, X3 = U2.alloc (.cells #[] 2) := ⟨_, rfl⟩
          have HX3 : Hid (X3 = U2.alloc (.cells #[] 2)) := hX3
          have HBX3 : Hid (Below U2.heap.size U2 X3) := by
            have h1 : Below U2.heap.size U2 X3 := by rw [hX3]; exact (Below.refl _ _).alloc (Nat.le_refl _) _
            exact h1
          generalize fwd (P.map odd) (newK xs ws P P.length) = f at HTO HMM
          have HO3 : Hid (X3.ownsRow U2.heap.size 2 1 (.slice (some ⟨U2.heap.size, 0, none⟩) 0 0) ((roots.take 0).map f).length (((roots.take 0).map f).map (Value.int .i64))) := ⟨rfl, .inr ⟨U2.heap.size, 0, #[], rfl, Nat.le_refl _, by rw [hX3]; exact heap_alloc_last U2 _, Nat.le_refl _, Nat.zero_le _, rfl, rfl⟩⟩
          clear hgK hiK hX3 HOB HONE HFD HNU HFN HPU HC0 HV HMW
          go_wp2_with (first | (rw [← HX3.out]))
          go_loopw [16, 17] (fun v i wr => ∃ k : Nat, k ≤ roots.length ∧ i = .int .i64 (k : Int) ∧ wr.ownsRow U2.heap.size 2 1 v ((roots.take k).map f).length (((roots.take k).map f).map (Value.int .i64)) ∧ Below U2.heap.size U2 wr) (fun _ i _ => roots.length - (intOf i).toNat)
          case atStart => exact ⟨0, Nat.zero_le _, rfl, HO3.out, HBX3.out⟩
          case round =>
            obtain ⟨k, hk, rfl, hown, hb⟩ := hrel
            have HOW : Hid (wr.ownsRow U2.heap.size 2 1 u16 ((roots.take k).map f).length (((roots.take k).map f).map (Value.int .i64))) := hown
            have HB : Hid (Below U2.heap.size U2 wr) := hb
            clear hown hb
            by_cases hlt : k < roots.length
            · have hki : (k : Int) < (roots.length : Int) := by omega
              have hk0 : (0 : Int) ≤ (k : Int) := by omega
              have hk4 : k ≤ 400 := by have := HRL.out; omega
              have HKN : Hid (k < roots.length) := hlt
              obtain ⟨b6, o6, rfl, e6⟩ := HRN.out wr (HWX.out wr HB.out) k hlt
              have HTK : Hid ((roots.take (k + 1)).map f = (roots.take k).map f ++ [f roots[k]]) := by
                show (roots.take (k + 1)).map f = _
                rw [List.take_succ_eq_append_getElem hlt, List.map_append]; rfl
              have HNL : Hid (((roots.take k).map f).length ≤ 1048576) := by show ((roots.take k).map f).length ≤ _; rw [List.length_map, List.length_take]; omega
              have HTR : Hid (Calls _ _ _ wr _) := HTO.out roots[k] wr HB.out
              generalize (roots.take k).map f = M at HOW HTK HNL
              generalize f roots[k] = y at HTK HTR
              generalize roots[k] = x at e6 HTR
              go_wp2_with fail
              refine HTR.out.mono ?_
              rintro e w4 ⟨rfl, rfl⟩
              go_wp2_with (refine wpList_push _ (by rfl) _ _ (by rfl) U2.heap.size u16 M y HOW.out (by rfl) (by rfl) HNL.out HB.out.size ?_; intro g6 c6 w6 hown6 hb6 hB6; have HO6 : Hid (_) := hown6; have HB6 : Hid (Below U2.heap.size U2 w6) := HB.out.trans hb6; clear hown6 hb6 hB6)
              go_roundw
              case rel => exact ⟨k + 1, by have := HKN.out; omega, by go_num, by rw [HTK.out]; exact HO6.out, HB6.out⟩
              case measure => have := HKN.out; simp [intOf]; omega
            · obtain rfl : k = roots.length := by omega
              rw [List.take_length, ← HMM.out] at HOW
              obtain ⟨aF, gF, cF, rfl, hgF, hiF⟩ := ints_of_row HOW.out
              have HFF : Hid (Ints wr aF gF MM) := hiF
              have HGF : Hid (U2.heap.size ≤ gF) := hgF
              obtain ⟨c0, c1⟩ := HXK.out wr HB.out
              obtain ⟨r0, r1, rf⟩ := HRC.out wr (HWX.out wr HB.out)
              have z0 := rf 0
              have z1 := rf 1
              have HP2 : Hid (∀ x0 x1, _) := two_put r0 r1
              clear rf hgF hiF HOW
              go_wp2
              refine bodyPost_ret (v := .tuple #[.agg #[.int .i64 z, .slice aK MW.length cK], .slice aF MM.length cF]) ?_ rfl ?_
              · obtain ⟨q0, q1⟩ := HP2.out (.int .i64 z) (.slice aK MW.length cK)
                simp [results, Try.results44, go_sem, q0, q1]
              · have hgk := HGK.out
                have hgf := HGF.out
                have hbw := HU2.out
                have hsz := HSZ.out
                exact ⟨aK, gK, cK, aF, gF, cF, rfl, by omega, by omega, ((HIK.out.below HB.out).grown (grown_set _ _ _ _) (by omega)).grown (grown_set _ _ _ _) (by omega), (HFF.out.grown (grown_set _ _ _ _) (by omega)).grown (grown_set _ _ _ _) (by omega), fun h0 => by have := HIK.out.lt h0; omega, HBE.out _ (HWX.out _ HB.out) _ _⟩
        case pos =>
          have hki : (k : Int) < (P.length : Int) := by omega
          have hk0 : (0 : Int) ≤ (k : Int) := by omega
          have hk4 : k ≤ 400 := by omega
          have HKN : Hid (k < P.length) := hlt
          have hWR := HWW.out wr HX.out.below
          have HWR : Hid (Below W.heap.size W wr) := hWR
          obtain ⟨hfn, htn⟩ := HPU.out wr HX.out.below
          have hgp := HKP.out.good _ (List.getElem_mem hlt)
          rw [getD_of P k hlt] at hgp
          obtain ⟨fb, fo, hfe, e5⟩ := hfn k (by rw [List.length_map]; exact hlt)
          rw [List.getElem_map, getD_of P k hlt] at e5
          have HTK2 : Hid (minK xs ws P (P.map odd) (newK xs ws P P.length) (k + 1) = minK xs ws P (P.map odd) (newK xs ws P P.length) k ++ oneW xs ws (P.map odd) (newK xs ws P P.length) (P.getD k 0)) := rfl
          have HNL : Hid ((minK xs ws P (P.map odd) (newK xs ws P P.length) k).length ≤ 1000000) := by
            show (minK xs ws P (P.map odd) (newK xs ws P P.length) k).length ≤ _
            rw [HKP.out.minK_len _ _ k (by omega)]
            have := HKP.out.tot4 k
            omega
          generalize P.getD k 0 = p at e5 hgp HTK2
          obtain ⟨aa, rfl⟩ := Int.eq_ofNat_of_zero_le hgp.1
          have hal := hgp.2.2
          rw [Int.toNat_natCast] at hal
          have ha9 : aa ≤ 399 := by have := hgp.2.1; omega
          obtain ⟨hv23, hv1, hh0, ht1, han, _⟩ := HFD.out aa hal
          have hod : odd (aa : Int) = 2 * (aa : Int) + 1 := rfl
          rw [hod] at e5
          have hq0 : (2 * (aa : Int) + 1).tdiv 2 = (aa : Int) := by rw [Int.tdiv_eq_ediv_of_nonneg (by omega)]; omega
          have hqw : IntKind.i64.wrap (aa : Int) = (aa : Int) := by rw [IntKind.wrap_i64]; omega
          obtain ⟨b5, o5, hae, d0⟩ := HNU.out wr hWR aa (by have := HXL.out; omega)
          rw [getD_of ws aa (by have := HXL.out; omega)] at d0
          have HOW : Hid (oneW xs ws (P.map odd) (newK xs ws P P.length) (aa : Int) = (4 * (ws.getD aa 0 / 4) + min (ws.getD aa 0 % 4 + 1) 3) :: fwdL (fwd (P.map odd) (newK xs ws P P.length)) (kdH xs (ws.getD aa 0)) (valsA xs ws aa) (valsA xs ws aa).length) := by
            show oneW xs ws (P.map odd) (newK xs ws P P.length) (aa : Int) = _
            unfold oneW headW
            rw [Int.toNat_natCast]
          rw [HOW.out] at HTK2
          have HHA : Hid (∀ w', Below wr.heap.size wr w' → Calls Try.prog 65 #[.slice a xs.length cap, .agg #[.int .i64 z, .slice a2 n vcap], .int .i64 (aa : Int)] w' fun e w'' => ∃ g c, e = .returned (.agg #[.int .i64 (ws.getD aa 0 / 4), .slice (some ⟨g, 0, none⟩) (valsA xs ws aa).length c]) ∧ w'.heap.size ≤ g ∧ Ints w'' (some ⟨g, 0, none⟩) g (valsA xs ws aa) ∧ Below w'.heap.size w' w'') := fun w' h => HOB.out aa hal w' (hWR.trans (h.mono hWR.size))
          have HFW : Hid (∀ w', Below wr.heap.size wr w' → ∀ (b : Option Addr) (vcap : Nat), Nums w' b (valsA xs ws aa) → Calls Try.prog 76 #[.slice a xs.length cap, .agg #[.int .i64 (ws.getD aa 0 / 4), .slice b (valsA xs ws aa).length vcap], .slice fa P.length fc, .slice ta P.length cT] w' fun e w'' => FOut (ws.getD aa 0 / 4) (valsA xs ws aa).length (fwdL (fwd (P.map odd) (newK xs ws P P.length)) (kdH xs (ws.getD aa 0)) (valsA xs ws aa) (valsA xs ws aa).length) w' e w'') := fun w' h b vcap q => HONE.out aa hal w' (hWR.trans (h.mono hWR.size)) b fa ta vcap fc cT q (hfn.below h) (htn.below h)
          unfold FOut at HFW
          have hfl : (fwdL (fwd (P.map odd) (newK xs ws P P.length)) (kdH xs (ws.getD aa 0)) (valsA xs ws aa) (valsA xs ws aa).length).length = (valsA xs ws aa).length := fwdL_len _ _ _ _
          have hqt : (ws.getD aa 0).tmod 4 = ws.getD aa 0 % 4 := Int.tmod_eq_emod_of_nonneg hh0
          have hg0 : 0 ≤ ws.getD aa 0 % 4 := by omega
          have hg3 : ws.getD aa 0 % 4 ≤ 3 := by omega
          have ht0 : 0 ≤ ws.getD aa 0 / 4 := by omega
          generalize fwdL (fwd (P.map odd) (newK xs ws P P.length)) (kdH xs (ws.getD aa 0)) (valsA xs ws aa) (valsA xs ws aa).length = fv at HTK2 HFW hfl
          generalize minK xs ws P (P.map odd) (newK xs ws P P.length) k = M at HX HTK2 HNL
          generalize valsA xs ws aa = vs at HFW HHA hfl hv23 hv1
          obtain ⟨vl, hvl⟩ : ∃ vl, vl = vs.length := ⟨_, rfl⟩
          rw [← hvl] at HFW HHA hfl hv23 hv1
          generalize ws.getD aa 0 / 4 = ty at HTK2 HFW HHA ht0 ht1
          generalize ws.getD aa 0 % 4 = ag at HTK2 hqt hg0 hg3
          generalize ws.getD aa 0 = hd at d0 hqt hh0
          have HFL : Hid (fv.length = vl) := hfl
          obtain ⟨k0, k1⟩ := HK.out wr hWR
          have hni : (aa : Int) < (n : Int) := by omega
          have ha0 : (0 : Int) ≤ (aa : Int) := by omega
          subst hfe
          subst hae
          have e5b : Hid (∀ w', Below wr.heap.size wr w' → w'.cell? ⟨fb, fo + k, none⟩ = some (.int .i64 (2 * (aa : Int) + 1))) := fun w' h => by rw [h.cell (p := ⟨fb, fo + k, none⟩) (World.block_lt_of_cell? _ _ e5)]; exact e5
          clear hWR hfn htn hgp hal hod hfl hvl
          go_wp2_with fail
          go_region
          obtain ⟨D, hD⟩ : ∃ D, D = wr.drew := ⟨_, rfl⟩
          rw [← hD]
          have hbD : Below wr.heap.size wr D := by rw [hD]; exact (Below.refl _ _).drew
          have HBD : Hid (Below wr.heap.size wr D) := hbD
          have HDU : Hid (∀ w', Below D.heap.size D w' → Below wr.heap.size wr w') := fun w' h => HBD.out.trans (h.mono HBD.out.size)
          have k0d : D.cell? ⟨w.heap.size, 0, none⟩ = some (.int .i64 z) := by rw [hD]; exact k0
          have k1d : D.cell? ⟨w.heap.size, 1, none⟩ = some (.slice (some ⟨b5, o5, none⟩) n vcap) := by rw [hD]; exact k1
          have e5d := e5b.out D hbD
          clear hD hbD k0 k1 e5
          have HCK : Hid (∀ w', Below D.heap.size D w' → w'.cell? ⟨w.heap.size, 0, none⟩ = some (.int .i64 z) ∧ w'.cell? ⟨w.heap.size, 1, none⟩ = some (.slice (some ⟨b5, o5, none⟩) n vcap) ∧ w'.cell? ⟨fb, fo + k, none⟩ = some (.int .i64 (2 * (aa : Int) + 1))) := fun w' h => ⟨(HK.out w' (HWR.out.trans ((HDU.out w' h).mono HWR.out.size))).1, (HK.out w' (HWR.out.trans ((HDU.out w' h).mono HWR.out.size))).2, e5b.out w' (HDU.out w' h)⟩
          have hacc : Below D.heap.size D D.drew := (Below.refl _ _).drew
          have HZ1 : Hid (Below D.heap.size D (D.alloc (.cells #[.int .i64 0, .slice none 0 0] 52)).drew) := ((Below.refl _ _).alloc (Nat.le_refl _) _).drew
          have HZ2 : Hid (nu.Pair D (D.alloc (.cells #[.int .i64 0, .slice none 0 0] 52)).drew) := (nu.Pair.start D _).later (Below.refl _ _).drew
          have hUA : D.heap.size ≤ D.heap.size := Nat.le_refl _
          clear d0
          go_upto_region 14 with fail
          go_cut [15] (fun pv wx => ∃ (B g : Nat) (aF : Option Addr) (c : Nat), pv = .pointer (some ⟨B, 0, none⟩) ∧ nu.OVar B ty aF g vl c fv wx ∧ D.heap.size ≤ B ∧ D.heap.size ≤ g ∧ Below D.heap.size D wx)
          case first =>
            go_region_held3 (fun w' => w'.cell? ⟨w.heap.size, 0, none⟩ = some (.int .i64 z) ∧ w'.cell? ⟨w.heap.size, 1, none⟩ = some (.slice (some ⟨b5, o5, none⟩) n vcap) ∧ w'.cell? ⟨fb, fo + k, none⟩ = some (.int .i64 (2 * (aa : Int) + 1))) (first | with_reducible exact HCK.out _ hacc | with_reducible exact HCK.out _ HZ1.out | with_reducible exact HCK.out _ (hacc.alloc hacc.size _) | exact HCK.out _ (hacc.alloc hacc.size _) | exact HCK.out _ ((hacc.setCell (p := ⟨_, 0, none⟩) hUA _).setCell (p := ⟨_, 1, none⟩) hUA _))
              (first | (go_at_call 65; refine (HHA.out _ (HDU.out _ HZ1.out)).mono ?_; rintro e wO ⟨gO, cO, rfl, hgX, hiO, hbX⟩; have hac2 : Below D.heap.size D wO := HZ1.out.trans (hbX.mono HZ1.out.size); clear hacc; have hacc := hac2; clear hac2; have hPR := HZ2.out.later hbX; clear hbX hgX) | (go_at_call 65; refine (HHA.out _ (HDU.out _ hacc)).mono ?_; rintro e wO ⟨gO, cO, rfl, hgX, hiO, hbX⟩; have hac2 : Below D.heap.size D wO := hacc.trans (hbX.mono hacc.size); clear hacc; have hacc := hac2; clear hac2 hbX hgX) | (go_at_call 76; have _p := hPR; refine (HFW.out _ (HDU.out _ hacc) _ _ hiO.nums).mono ?_; rintro e wF ⟨aF, gF, cF, rfl, hgX, hiF, hbX⟩; have hac2 : Below D.heap.size D wF := hacc.trans (hbX.mono hacc.size); have hgU : D.heap.size ≤ gF := Nat.le_trans hacc.size hgX; have hgT := Nat.lt_of_lt_of_le hPR.lt hgX; have hPR2 := hPR.later hbX; clear _p hPR; have hPR := hPR2; clear hPR2; clear hacc; have hacc := hac2; clear hac2 hbX hgX; have v0 := hPR.cell 0 _ rfl; have v1 := hPR.cell 1 _ rfl; have z0 := hPR.free 0; have z1 := hPR.free 1) | (go_at_call 76; refine (HFW.out _ (HDU.out _ (hacc.alloc hacc.size _)) _ _ (hiO.nums.below ((Below.refl _ _).alloc (Nat.le_refl _) _))).mono ?_; rintro e wF ⟨aF, gF, cF, rfl, hgX, hiF, hbX⟩; have hac2 : Below D.heap.size D wF := (hacc.alloc hacc.size _).trans (hbX.mono (hacc.alloc hacc.size _).size); have hgU : D.heap.size ≤ gF := Nat.le_trans (hacc.alloc hacc.size _).size hgX; have hgT := Nat.lt_of_lt_of_le (nu.Pair.start _ 52).lt hgX; clear hUA; have hUA := hacc.size; have hPR := (nu.Pair.start _ 52).later hbX; clear hacc; have hacc := hac2; clear hac2 hbX hgX; have v0 := hPR.cell 0 _ rfl; have v1 := hPR.cell 1 _ rfl; have z0 := hPR.free 0; have z1 := hPR.free 1) | (go_at_call 76; refine (HFW.out _ (HDU.out _ hacc) _ _ hiO.nums).mono ?_; rintro e wF ⟨aF, gF, cF, rfl, hgX, hiF, hbX⟩; have hac2 : Below D.heap.size D wF := hacc.trans (hbX.mono hacc.size); have hgU : D.heap.size ≤ gF := Nat.le_trans hacc.size hgX; clear hacc; have hacc := hac2; clear hac2 hbX hgX))
            all_goals
              go_wp2_with fail
              go_meet
              first
                | exact ⟨_, gF, aF, cF, rfl, nu.ovar_put hPR hiF hgT HFL.out, hUA, hgU, (hacc.setCell (p := ⟨_, 0, none⟩) hUA _).setCell (p := ⟨_, 1, none⟩) hUA _⟩
                | exact ⟨_, gF, aF, cF, rfl, nu.OVar.start wF ty aF gF vl cF fv _ HFL.out hiF, hacc.size, hgU, hacc.alloc hacc.size _⟩
          case rest =>
            obtain ⟨B, gF, aF, cF, rfl, hV, hBU, hgU, hU⟩ := hcut
            obtain ⟨X, hXe⟩ : ∃ X, X = wc := ⟨_, rfl⟩
            rw [← hXe] at hV hU ⊢
            have HXX : Hid (OBox U cb z M v X) := HX.out.later (HDU.out X hU)
            have b0 := hV.c0
            have b1 := hV.c1
            have HNF : Hid (Nums X aF fv) := hV.tx.nums
            have hBX : B < X.heap.size := hV.lt
            have c1 := HXX.out.c1
            have HCBX : Hid (cb + 1 ≤ X.heap.size) := HXX.out.lt
            have hcbB : cb + 1 ≤ B := by have := HX.out.lt; have := HBD.out.size; omega
            obtain ⟨y, hy⟩ : ∃ y, y = 4 * ty + min (ag + 1) 3 := ⟨_, rfl⟩
            have hm0 : 0 ≤ min (ag + 1) 3 ∧ min (ag + 1) 3 ≤ 3 := by omega
            have hw1 : IntKind.i64.wrap (4 * ty) = 4 * ty := by rw [IntKind.wrap_i64]; omega
            have hw2 : IntKind.i64.wrap (ag + 1) = ag + 1 := by rw [IntKind.wrap_i64]; omega
            have hw3 : IntKind.i64.wrap (4 * ty + min (ag + 1) 3) = y := by rw [hy, IntKind.wrap_i64]; omega
            have hw4 : IntKind.i64.wrap ag = ag := by rw [IntKind.wrap_i64]; omega
            rw [← hy] at HTK2
            have HL1 : Hid ((M ++ [y]).length = M.length + 1) := by show (M ++ [y]).length = _; rw [List.length_append]; rfl
            have HTK3 : Hid (minK xs ws P (P.map odd) (newK xs ws P P.length) (k + 1) = (M ++ [y]) ++ fv) := by
              show minK xs ws P (P.map odd) (newK xs ws P P.length) (k + 1) = _
              rw [HTK2.out, List.append_assoc]; rfl
            have HXd : Hid (OBox U cb z M v X.drew) := HXX.out.drawn
            have c1b := HXX.out.past (.cells #[.int .i64 y] 2)
            have b1a := (hV.below ((Below.refl _ _).alloc (Nat.le_refl _) (.cells #[.int .i64 y] 2))).c1
            have HVd : Hid (nu.OVar B ty aF gF vl cF fv X.drew) := hV.below (Below.refl _ _).drew
            have HNE : Hid (∀ r, v.ownBlock = some r → B ≠ r ∧ (0 < fv.length → gF ≠ r)) := fun r q => by
              have h1 := own_lt HX.out.own r q
              have h2 := HBD.out.size
              exact ⟨by omega, fun _ => by omega⟩
            clear hXe hV hU HTK2 hy e5d k0d k1d hacc
            go_wp2_with fail
            go_region_law (first | (refine step_pushG X.drew (by rfl) _ _ (by rfl) (cb + 1) v M y HXd.out.own (by rfl) (by rfl) (Nat.le_trans HNL.out (by omega)) HXd.out.lt ?_; intro g6 c6 w6 hown6 hgw6 hb6 hB6; have HO6 : Hid (w6.ownsRow _ _ _ _ _ _) := hown6; have HBB6 : Hid (Below (cb + 1) X.drew w6) := hb6; have HS6 : Hid (cb + 1 ≤ w6.heap.size) := hB6; have HV6 : Hid (nu.OVar B ty aF gF vl cF fv w6) := ovar_kept HVd.out hgw6 HNE.out; have b6 := HV6.out.c1; clear hown6 hgw6 hb6 hB6) | (refine step_pushV w6 (by rfl) _ _ (by rfl) (cb + 1) (.slice (some ⟨g6, 0, none⟩) (M.length + 1) c6) (M.length + 1) (M ++ [y]) aF vl cF fv HL1.out HFL.out hv1 HO6.out (by rfl) (by rfl) HV6.out.tx.nums (Nat.le_trans (Nat.succ_le_succ HNL.out) (by omega)) (by omega) HS6.out ?_; intro g8 c8 w8 hown8 hb8 hB8; have HX8 : Hid (_) := HXd.out.step hown8 (HBB6.out.trans hb8); obtain ⟨k8, f8⟩ := HXd.out.kept (HBB6.out.trans hb8); clear hown8 hb8 hB8))
            all_goals
              go_wp2_with fail
              go_roundw
              case rel => exact ⟨k + 1, _, by have := HKN.out; omega, by go_num, by rw [HTK3.out]; exact HX8.out⟩
              case measure => have := HKN.out; simp [intOf]; omega
end Go.Proofs.Ytngpmohmnpbcnaa.mi
