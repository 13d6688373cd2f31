/-
  A nursery is opened, by the program: the words are gone through, then the references.
-/
import Derived.Test.YtngpmohmnpbcnaaYOpen2
namespace Go.Proofs.Ytngpmohmnpbcnaa.nu
open Go.RowKit Go.Maps
open kinds ints ref obj

theorem making_start (W : World) (T : Value) (xs : List ByteArray) (ws : List Int) (V : World) (hV : V = (W.alloc (.map #[] 0)).alloc (.cells #[T, .slice none 0 0, .map (some W.heap.size)] 60)) :
    Making W V (W.heap.size + 1) W.heap.size (W.heap.size + 2) 0 T (.slice none 0 0) xs ws [] ∧ V.heap.size = W.heap.size + 2 := by
  subst hV
  have hsz : (W.alloc (.map #[] 0)).heap.size = W.heap.size + 1 := by simp
  have hb1 : Below (W.alloc (.map #[] 0)).heap.size (W.alloc (.map #[] 0)) ((W.alloc (.map #[] 0)).alloc (.cells #[T, .slice none 0 0, .map (some W.heap.size)] 60)) := (Below.refl _ _).alloc (Nat.le_refl _) _
  refine ⟨⟨?_, ⟨rfl, .inl ⟨rfl, rfl⟩⟩, (fun k q => by cases q), by simp, (objs_made W _ 0 xs ws).below hb1, ((Below.refl _ _).alloc (Nat.le_refl _) _).alloc (by simp) _, by simp, by omega, by omega, by omega, Nat.le_refl _, by omega⟩, by simp⟩
  have h := Tri.start (W.alloc (.map #[] 0)) T (.slice none 0 0) (.map (some W.heap.size)) 60
  rw [hsz] at h
  exact h
set_option maxHeartbeats 4000000 in
set_option maxRecDepth 20000 in
theorem opened_late (w : World) (a : Option Addr) (cap : Nat) (xs : List ByteArray) (z : Int) (a2 : Option Addr) (n vcap : Nat) (ws : List Int) (hx : ws.length = n) (hxn : xs.length ≤ 1048576) (hl : Strs w a xs) (hz : ∀ i (hi : i < xs.length), xs[i].size ≤ 1048576) (hn : n ≤ 1048576) (hcap : n ≤ vcap) (hv : Nums w a2 ws) (hh : ∀ x ∈ ws, x < 9223372036854775808) (hp : preN xs z ws = true) :
    Calls Try.prog 39 #[.slice a xs.length cap, .agg #[.int .i64 z, .slice a2 n vcap]] w fun e w' => OpenAns xs z ws w e w' := by
  have HLW0 : Hid (Strs w a xs) := hl
  obtain ⟨W, hW⟩ : ∃ W, W = (w.alloc (.cells #[.int .i64 z, .slice a2 n vcap] 31)).alloc (.cells #[.slice none 0 0, .slice none 0 0, .map none] 60) := ⟨_, rfl⟩
  have HW : Hid (W = (w.alloc (.cells #[.int .i64 z, .slice a2 n vcap] 31)).alloc (.cells #[.slice none 0 0, .slice none 0 0, .map none] 60)) := hW
  obtain ⟨hb0, hsz, hT, c0, c1⟩ := open_box w z a2 n vcap W hW
  have hlW := hl.below hb0
  have hvW := hv.below hb0
  obtain ⟨htp, hz2, hz4, hzl⟩ := preN_facts hp
  have h23 : ∀ i (hi : i < xs.length), 1 ≤ xs[i].size ∧ xs[i].size ≤ 23 := by
    have h1 := htp
    unfold typesOk at h1
    rw [Bool.and_eq_true, List.all_eq_true] at h1
    exact fun i hi => isType_size (h1.2 _ (List.getElem_mem hi))
  have HTY : Hid (Calls _ _ _ W _) := impl_types W a cap xs hxn hlW hz
  have HWI : Hid (∀ w : World, Calls _ _ _ w _) := fun w => within_any w z 2 400
  rw [htp] at HTY
  rw [show (decide (2 ≤ z) && decide (z ≤ 400)) = true by rw [decide_eq_true hz2, decide_eq_true hz4]; rfl] at HWI
  have hle : ¬ z < (n : Int) := by omega
  have hn4 : n ≤ 400 := by omega
  obtain ⟨hmk, hVs⟩ := making_start W (.slice a xs.length cap) xs ws _ rfl
  obtain ⟨V, hV⟩ : ∃ V, V = (W.alloc (.map #[] 0)).alloc (.cells #[.slice a xs.length cap, .slice none 0 0, .map (some W.heap.size)] 60) := ⟨_, rfl⟩
  have HV : Hid (V = (W.alloc (.map #[] 0)).alloc (.cells #[.slice a xs.length cap, .slice none 0 0, .map (some W.heap.size)] 60)) := hV
  rw [← hV] at hmk hVs
  have HMK : Hid (Making W V (W.heap.size + 1) W.heap.size (W.heap.size + 2) 0 (.slice a xs.length cap) (.slice none 0 0) xs ws []) := hmk
  have HSZ : Hid (W.heap.size = w.heap.size + 2) := hsz
  have HB0 : Hid (Below w.heap.size w W) := hb0
  have HTr : Hid (∀ w', Below W.heap.size W w' → Tri (w.heap.size + 1) (.slice none 0 0) (.slice none 0 0) (.map none) w') := fun w' h => hT.below h
  have HK1 : Hid (∀ w', Below W.heap.size W w' → w'.cell? ⟨w.heap.size, 1, none⟩ = some (.slice a2 n vcap)) := fun w' h => by
    rw [h.cell (p := ⟨w.heap.size, 1, none⟩) (by show w.heap.size < _; omega)]; exact c1
  have HLS : Hid (∀ w', Below W.heap.size W w' → Strs w' a xs) := fun w' h => hlW.below h
  have HNU : Hid (∀ w', Below W.heap.size W w' → Nums w' a2 ws) := fun w' h => hvW.below h
  have HX : Hid (ws.length = n) := hx
  have HHD : Hid (∀ x ∈ ws, x < 9223372036854775808) := hh
  have H23 : Hid (∀ i (hi : i < xs.length), 1 ≤ xs[i].size ∧ xs[i].size ≤ 23) := h23
  have HNB : Hid (∀ L, Found xs ws L → nurB xs z ws = namesB xs ws L L) := fun L h => nurB_some hp h.eq
  have HNN : Hid (parsed xs ws = none → nurB xs z ws = false) := fun h => nurB_none h
  clear hW hl hv hb0 hsz hT hlW hvW htp h23 hmk hV hVs hx hh hp hz hzl hz2 hz4
  have hmm : (Instr.makeMap 58 none).run Try.prog W = .ok (.map (some W.heap.size)) (W.alloc (.map #[] 0)) := by simp [Instr.makeMap, go_sem]
  obtain ⟨mb, hmb⟩ : ∃ mb, mb = W.heap.size := ⟨_, rfl⟩
  have HMB : Hid (mb = W.heap.size) := hmb
  go_enter Try.func39, Try.ntmps39
  go_wp2_with fail
  rw [← HW.out]
  refine HTY.out.mono ?_
  rintro e w2 ⟨rfl, rfl⟩
  go_wp2_with fail
  refine (HWI.out _).mono ?_
  rintro e w2 ⟨rfl, rfl⟩
  go_wp2_with (rw [← HV.out])
  go_loopw [7] (fun i wr => ∃ (at' : Nat) (L : List Nat) (v : Value) (s : Nat), i = .int .i64 (at' : Int) ∧ Walk xs ws at' L ∧ Making W wr (W.heap.size + 1) W.heap.size (W.heap.size + 2) s (.slice a xs.length cap) v xs ws L) (fun i _ => n - (intOf i).toNat)
  case atStart =>
    exact ⟨0, [], _, 0, rfl, Walk.start xs ws, HMK.out⟩
  case round =>
    obtain ⟨at', L, v, s, rfl, hwk, hmk⟩ := hrel
    have HWK : Hid (Walk xs ws at' L) := hwk
    have HM : Hid (Making W wr (W.heap.size + 1) W.heap.size (W.heap.size + 2) s (.slice a xs.length cap) v xs ws L) := hmk
    clear hwk hmk c0 c1
    have hc1 := HK1.out wr HM.out.bel
    by_cases hlt : at' < n
    · have hlti : (at' : Int) < (n : Int) := by omega
      have hat0 : (0 : Int) ≤ (at' : Int) := by omega
      have hle' : at' ≤ ws.length := by have := HX.out; omega
      obtain ⟨b, off, rfl, _⟩ := HNU.out wr HM.out.bel at' (by have := HX.out; omega)
      have hsl := fun W => run_tail W b off n vcap at' hlt hcap
      have HFY : Hid (Calls _ _ _ wr _) := firstYoung_any wr a cap xs b (off + at') (n - at') (vcap - at') (ws.drop at') (by rw [List.length_drop, HX.out]) (by omega) (by omega) (by omega) hxn (HLS.out wr HM.out.bel) (Nums.rest (HNU.out wr HM.out.bel) at') H23.out (by
        rw [drop_getD, Nat.add_zero, List.getD_eq_getElem?_getD, List.getElem?_eq_getElem (by have := HX.out; omega)]
        exact HHD.out _ (List.getElem_mem _))
      rw [step_drop xs ws at' hle', vals_drop, drop_getD, Nat.add_zero] at HFY
      have HVP : Hid (stepN xs ws at' ≠ 0 → 0 < (valsA xs ws at').length ∧ stepN xs ws at' = 1 + (valsA xs ws at').length ∧ at' + stepN xs ws at' ≤ n) := fun h => by
        obtain ⟨_, hpb, hfit, he⟩ := stepN_le h
        obtain ⟨p, hpe, hpl⟩ := placeB_nat hpb
        have h1 := H23.out p hpl
        rw [valsA_len h, he, kdH_at hpl hpe]
        rw [kdH_at hpl hpe] at hfit
        have := HX.out
        omega
      have HNX : Hid (stepN xs ws at' ≠ 0 → Walk xs ws (at' + stepN xs ws at') (L ++ [at'])) := fun h => HWK.out.next (by have := HX.out; omega) h
      have HNP : Hid (stepN xs ws at' = 0 → nurB xs z ws = false) := fun h => HNN.out (HWK.out.no (by have := HX.out; omega) h)
      have HYE : Hid (∀ (w9 : World) (g c : Nat), w9.heap.size ≤ w9.heap.size → Ints w9 (some ⟨g, 0, none⟩) g (valsA xs ws at') → W.heap.size + 2 ≤ g → g ≠ s → g < w9.heap.size → YIs w9 (W.heap.size + 2) s xs ws at' ⟨ws.getD at' 0 % 4, ws.getD at' 0 / 4, some ⟨g, 0, none⟩, (valsA xs ws at').length, c⟩) := fun w9 g c _ hi h1 h2 h3 => ⟨rfl, rfl, rfl, g, rfl, h1, h2, h3, hi⟩
      have HLL : Hid (L.length ≤ 400) := by show L.length ≤ 400; have := HWK.out.len; omega
      have HFR : Hid (at' ∉ L) := HWK.out.fresh
      have hwf := word_wf at' (by omega)
      generalize stepN xs ws at' = st at HFY HVP HNX HNP
      generalize hva : valsA xs ws at' = va at HFY HVP HYE
      generalize ws.getD at' 0 % 4 = ag at HFY HYE
      generalize ws.getD at' 0 / 4 = ty at HFY HYE
      clear hva hle'
      go_wp2_with fail
      refine HFY.out.mono ?_
      rintro e w2 ⟨hb2, ⟨hst, rfl⟩ | ⟨hst, g, c, rfl, hg, hi⟩⟩
      · have HR : Hid (nurB xs z ws = false) := HNP.out hst
        obtain ⟨Y, hY⟩ : ∃ Y, Y = w2.alloc (.cells #[.int .i64 0, .int .i64 0, .slice none 0 0] 71) := ⟨_, rfl⟩
        obtain ⟨yb, hyb⟩ : ∃ yb, yb = w2.heap.size := ⟨_, rfl⟩
        have HY : Hid (Y = w2.alloc (.cells #[.int .i64 0, .int .i64 0, .slice none 0 0] 71)) := hY
        have HYB : Hid (yb = w2.heap.size) := hyb
        have hbY : Below wr.heap.size wr Y := by rw [hY]; exact hb2.alloc hb2.size _
        have HBX : Tri yb (.int .i64 0) (.int .i64 0) (.slice none 0 0) Y := by rw [hY, hyb]; exact Tri.start w2 _ _ _ _
        have hyW : W.heap.size ≤ yb := by have := HM.out.siz; have := hb2.size; omega
        have hbZ : Below W.heap.size W (((Y.setCell ⟨yb, 0, none⟩ (.int .i64 0)).setCell ⟨yb, 1, none⟩ (.int .i64 0)).setCell ⟨yb, 2, none⟩ (.slice none 0 0)) := put_below (HM.out.bel.trans (hbY.mono HM.out.bel.size)) hyW _ _ _
        obtain ⟨j0, j1, j2, jf⟩ := HBX
        have k0 := jf 0
        have k1 := jf 1
        have k2 := jf 2
        obtain ⟨Z, hZ⟩ : ∃ Z, Z = ((Y.setCell ⟨yb, 0, none⟩ (.int .i64 0)).setCell ⟨yb, 1, none⟩ (.int .i64 0)).setCell ⟨yb, 2, none⟩ (.slice none 0 0) := ⟨_, rfl⟩
        have HZ : Hid (Z = ((Y.setCell ⟨yb, 0, none⟩ (.int .i64 0)).setCell ⟨yb, 1, none⟩ (.int .i64 0)).setCell ⟨yb, 2, none⟩ (.slice none 0 0)) := hZ
        rw [← hZ] at hbZ
        have HBY : Hid (Below W.heap.size W Z) := hbZ
        obtain ⟨v0, v1, v2, vf⟩ := HTr.out Z HBY.out
        have z0 := vf 0
        have z1 := vf 1
        have z2 := vf 2
        have HT : Hid (Tri (w.heap.size + 1) (.slice none 0 0) (.slice none 0 0) (.map none) (((Z.setCell ⟨w.heap.size + 1, 0, none⟩ (.slice none 0 0)).setCell ⟨w.heap.size + 1, 1, none⟩ (.slice none 0 0)).setCell ⟨w.heap.size + 1, 2, none⟩ (.map none))) := (HTr.out Z HBY.out).put _ _ _
        have HBE : Hid (Below w.heap.size w (((Z.setCell ⟨w.heap.size + 1, 0, none⟩ (.slice none 0 0)).setCell ⟨w.heap.size + 1, 1, none⟩ (.slice none 0 0)).setCell ⟨w.heap.size + 1, 2, none⟩ (.map none))) := put_below (HB0.out.trans (HBY.out.mono HB0.out.size)) (by omega) _ _ _
        clear hY hyb hbY hyW hb2 hst vf jf hZ hbZ
        go_wp2_with (first | (rw [← HZ.out]) | (rw [← HY.out, ← HYB.out]) | (rw [← HY.out]))
        refine bodyPost_ret (v := .tuple #[.agg #[.slice none 0 0, .slice none 0 0, .map none], .bool false]) ?_ rfl (open_no HR.out rfl HBE.out)
        obtain ⟨q0, q1, q2, _⟩ := HT.out
        simp [results, Try.results39, go_sem, q0, q1, q2]
      · obtain ⟨hva0, hste, hstn⟩ := HVP.out hst
        have HNX2 : Hid (Walk xs ws (at' + st) (L ++ [at'])) := HNX.out hst
        obtain ⟨Y, hY⟩ : ∃ Y, Y = w2.alloc (.cells #[.int .i64 ag, .int .i64 ty, .slice (some ⟨g, 0, none⟩) va.length c] 71) := ⟨_, rfl⟩
        obtain ⟨yb, hyb⟩ : ∃ yb, yb = w2.heap.size := ⟨_, rfl⟩
        have HY : Hid (Y = w2.alloc (.cells #[.int .i64 ag, .int .i64 ty, .slice (some ⟨g, 0, none⟩) va.length c] 71)) := hY
        have HYB : Hid (yb = w2.heap.size) := hyb
        have hbY : Below wr.heap.size wr Y := by rw [hY]; exact hb2.alloc hb2.size _
        have hY2 : Below w2.heap.size w2 Y := by rw [hY]; exact (Below.refl _ _).alloc (Nat.le_refl _) _
        have HMY : Hid (Making W Y (W.heap.size + 1) W.heap.size (W.heap.size + 2) s (.slice a xs.length cap) v xs ws L) := HM.out.later hbY
        have HBX : Hid (Tri yb (.int .i64 ag) (.int .i64 ty) (.slice (some ⟨g, 0, none⟩) va.length c) Y) := by rw [hY, hyb]; exact Tri.start w2 _ _ _ _
        have hws : wr.heap.size ≤ w2.heap.size := hb2.size
        have HYB2 : Hid (W.heap.size + 2 ≤ yb ∧ yb ≠ s) := ⟨by have := HM.out.siz; omega, by have := HM.out.slt; omega⟩
        have HYI : Hid (YIs Y (W.heap.size + 2) s xs ws at' ⟨ag, ty, some ⟨g, 0, none⟩, va.length, c⟩) := HYE.out Y g c (Nat.le_refl _) (hi.below hY2) (by have := HM.out.siz; omega) (by have := HM.out.slt; omega) ((hi.below hY2).lt hva0)
        obtain ⟨t0, t1, t2, tf⟩ := HMY.out.tri
        clear hY hyb hbY hY2 hb2 hi hg hws hst HYE HFY HNX HNP HVP tf
        go_wp2_with (first | (rw [← HW7.out]) | (rw [← HY.out, ← HYB.out]) | (rw [← HY.out]) | (refine wpList_pushY Y (by rfl) _ _ (by rfl) (W.heap.size + 2) v L.length _ (at' : Int) HMY.out.row (by rfl) (by rfl) (by have := HLL.out; omega) HMY.out.siz ?_; intro g6 c6 w6 hrow6 hg6 hgs6 hlt6; obtain ⟨⟨s0, s1, s2, sf⟩, hhf, hy7⟩ := HMY.out.push HBX.out HYB2.out.1 HYB2.out.2 HYI.out hrow6 hg6 hgs6 hlt6; have sf1 := sf 1; clear hrow6 hg6 hgs6 hlt6 sf t0 t1 t2; obtain ⟨w7, hw7⟩ : ∃ w7, w7 = w6.setCell ⟨W.heap.size + 1, 1, none⟩ (.slice (some ⟨g6, 0, none⟩) (L.length + 1) c6) := ⟨_, rfl⟩; rw [← hw7] at hhf hy7; have HW7 : Hid (w7 = w6.setCell ⟨W.heap.size + 1, 1, none⟩ (.slice (some ⟨g6, 0, none⟩) (L.length + 1) c6)) := hw7; have HHF : Hid (Half _ w7 _ _ _ _ _ _ _ _ _ _ _ _ _ _) := hhf; have HY7 : Hid (YIs w7 _ _ _ _ _ _) := hy7; have t1 := hhf.tri.c1; have t2 := hhf.tri.c2; have b0 := hhf.box.c0; have b1 := hhf.box.c1; have b2 := hhf.box.c2; obtain ⟨f7, hf1, hf2, hf3⟩ := hhf.objs; have HF1 : Hid (MapIs w7 _ _ _) := hf1; have HF2 : Hid (∀ p, _) := hf2; have HF3 : Hid (∀ x ∈ L, _) := hf3; clear hw7 hhf hy7 hf1 hf2 hf3) | (at_mapUpdate; refine at_put w7 rfl _ _ _ rfl W.heap.size L.length f7 rfl HF1.out (by have := HLL.out; unfold maxLen; omega) (at' : Int) ⟨ag, ty, some ⟨g, 0, none⟩, va.length, c⟩ rfl rfl hwf ?_; intro w8 hm8 hg8; obtain ⟨hmk8, hbx8⟩ := HHF.out.close HF2.out HF3.out HY7.out HFR.out hm8 hg8; have HM8 : Hid (Making _ w8 _ _ _ _ _ _ _ _ _) := hmk8; have d0 := hbx8.c0; have d1 := hbx8.c1; have d2 := hbx8.c2; clear hm8 hg8 hmk8 hbx8 b0 b1 b2 t1 t2 HHF HF1 HF2 HF3 HY7))
        refine (size_any w8 ag ty _ va.length c (by omega)).mono ?_
        rintro e w9 ⟨rfl, hb9⟩
        have HM9 : Hid (Making _ w9 _ _ _ _ _ _ _ _ _) := HM8.out.later hb9
        clear hb9 d0 d1 d2
        go_wp2
        go_roundw
        case rel => exact ⟨at' + st, L ++ [at'], _, g6, by rw [hste]; go_num, HNX2.out, HM9.out⟩
        case measure => simp [intOf]; omega
    · have HFN : Hid (Found xs ws L) := HWK.out.found (by have := HX.out; omega)
      have HNB2 : Hid (nurB xs z ws = namesB xs ws L L) := HNB.out L HFN.out
      obtain ⟨sa, sg, sc, hve, hsg, hin⟩ := words_of_row (xs := numsOf L) (by rw [numsOf_len]; exact HM.out.row)
      rw [numsOf_len] at hve
      subst hve
      obtain ⟨R, hR⟩ : ∃ R, R = wr := ⟨_, rfl⟩
      subst hR
      have HSI : Hid (Ints R sa sg (numsOf L)) := hin
      have HSG : Hid (W.heap.size + 2 ≤ sg) := hsg
      have HBW : Hid (Below W.heap.size W R) := HM.out.bel
      have HLL : Hid (L.length ≤ 400) := by show L.length ≤ 400; have := HFN.out.len; have := HX.out; omega
      obtain ⟨t0, t1, t2, _⟩ := HM.out.tri
      clear hin hsg HWK HNB HNN HMK HV
      go_wp2
      clear t0 t1 t2 hc1
      go_loopw [67] (fun i w2 => ∃ k : Nat, k ≤ L.length ∧ i = .int .i64 (k : Int) ∧ namesB xs ws L (L.take k) = true ∧ Below R.heap.size R w2) (fun i _ => L.length - (intOf i).toNat)
      case atStart => exact ⟨0, Nat.zero_le _, rfl, rfl, Below.refl _ _⟩
      case round =>
        obtain ⟨k, hk, rfl, hok, hb⟩ := hrel
        have HB : Hid (Below R.heap.size R wr) := hb
        have HOK : Hid (namesB xs ws L (L.take k) = true) := hok
        have HBWr : Hid (Below W.heap.size W wr) := HBW.out.trans (hb.mono HBW.out.size)
        have HTc : Hid (Tri (W.heap.size + 1) (.slice a xs.length cap) (.slice sa L.length sc) (.map (some W.heap.size)) wr) := HM.out.tri.below hb
        have HOj : Hid (Objs wr (W.heap.size + 2) s W.heap.size L.length xs ws L) := HM.out.objs.below hb
        clear hb hok
        by_cases hlt : k < L.length
        · have hlti : (k : Int) < (L.length : Int) := by omega
          have hk0 : (0 : Int) ≤ (k : Int) := by omega
          obtain ⟨b5, o5, rfl, e5⟩ := (HSI.out.nums.below HB.out) k (by rw [numsOf_len]; exact hlt)
          have ha' : L[k] ∈ L := List.getElem_mem hlt
          rw [show (numsOf L)[k]'(by rw [numsOf_len]; exact hlt) = (L[k] : Int) by unfold numsOf; simp] at e5
          have HTK : Hid (namesB xs ws L (L.take (k + 1)) = (namesB xs ws L (L.take k) && allNamedB L (refsA xs ws L[k]))) := by
            show namesB xs ws L (L.take (k + 1)) = _
            rw [List.take_succ_eq_append_getElem hlt, names_snoc]
          generalize L[k] = aa at ha' e5 HTK
          have hgd := HFN.out.good aa ha'
          obtain ⟨hh0, hpb, hfit, _⟩ := stepN_le hgd
          obtain ⟨p, hpe, hpl⟩ := placeB_nat hpb
          have hkd := kdH_at hpl hpe
          have hvl := valsA_len hgd
          have haa : aa ≤ 1048576 := by have := HX.out; omega
          obtain ⟨g, c, hlk, _, hig⟩ := HOj.out.get aa ha' haa
          rw [hkd] at hvl
          rw [hpe] at hlk
          have h23' := H23.out p hpl
          have HLK : Hid (∀ w', Below wr.heap.size wr w' → _) := fun w' h => (hlk w' h).1
          have HRF : Hid (refsA xs ws aa = refsL xs[p] (valsA xs ws aa) (valsA xs ws aa).length) := by show refsA xs ws aa = _; unfold refsA; rw [hkd]
          have HMEM : Hid (∀ x ∈ valsA xs ws aa, x < 9223372036854775808) := fun x hx => HHD.out x (List.mem_of_mem_drop (List.mem_of_mem_take hx))
          have HIG : Hid (Ints wr (some ⟨g, 0, none⟩) g (valsA xs ws aa)) := hig
          generalize valsA xs ws aa = vs at HRF HMEM HIG HLK hvl
          generalize ws.getD aa 0 % 4 = ag at HLK
          have HRO : Hid (∀ w', Below wr.heap.size wr w' → Calls _ _ _ w' _) := fun w' h => refsOf_any w' a cap xs p (some ⟨g, 0, none⟩) c vs hxn (HLS.out _ (HBWr.out.trans (h.mono HBWr.out.size))) hpl hvl (by omega) (HIG.out.nums.below h)
          have HLN : Hid ((refsL xs[p] vs vs.length).length ≤ 1048576) := by show (refsL xs[p] vs vs.length).length ≤ _; have := refsL_len xs[p] vs vs.length; omega
          have HMR : Hid (∀ x ∈ refsL xs[p] vs vs.length, x < 9223372036854775808) := refsL_mem xs[p] vs vs.length (Nat.le_refl _) _ HMEM.out
          rw [HRF.out] at HTK
          generalize refsL xs[p] vs vs.length = rl at HRO HLN HMR HTK
          have HAL : Hid (∀ w' (v : Option Addr) (vc : Nat), Below wr.heap.size wr w' → Nums w' v rl → Calls _ _ _ w' _) := fun w' v vc h q => allNamed_any w' (.slice a xs.length cap) (.slice (some ⟨b5, o5, none⟩) L.length sc) (.map (some W.heap.size)) (W.heap.size + 2) xs ws L v rl.length vc rl rfl HLN.out q HMR.out (.inr ⟨s, _, _, rfl, HOj.out.below h⟩)
          generalize allNamedB L rl = an at HAL HTK
          have HCK : Hid (∀ w', Below wr.heap.size wr w' → w'.cell? ⟨W.heap.size + 1, 0, none⟩ = some (.slice a xs.length cap) ∧ w'.cell? ⟨W.heap.size + 1, 1, none⟩ = some (.slice (some ⟨b5, o5, none⟩) L.length sc) ∧ w'.cell? ⟨W.heap.size + 1, 2, none⟩ = some (.map (some W.heap.size)) ∧ (Instr.lookup 58 (.map (some W.heap.size)) (.int .i64 (aa : Int)) false).run Try.prog w' = .ok (.agg #[.int .i64 ag, .int .i64 (p : Int), .slice (some ⟨g, 0, none⟩) vs.length c]) w') := fun w' h =>
            ⟨(HTc.out.below h).c0, (HTc.out.below h).c1, (HTc.out.below h).c2, HLK.out w' h⟩
          have hacc : Below wr.heap.size wr wr.drew := (Below.refl _ _).drew
          obtain ⟨t0, t1, t2, t3⟩ := HCK.out wr (Below.refl _ _)
          have HKN : Hid ((k : Int) < (L.length : Int)) := hlti
          have hk4 : k ≤ 400 := by have := HLL.out; omega
          have hfl := fun W => young_obj ag (p : Int) (some ⟨g, 0, none⟩) vs.length c W
          clear hgd hh0 hpb hfit hpe hpl hkd hvl hlk hig h23' HRF HLK HMEM ha' haa
          go_wp2_with fail
          go_region_held3 (fun w' => w'.cell? ⟨W.heap.size + 1, 0, none⟩ = some (.slice a xs.length cap) ∧ w'.cell? ⟨W.heap.size + 1, 1, none⟩ = some (.slice (some ⟨b5, o5, none⟩) L.length sc) ∧ w'.cell? ⟨W.heap.size + 1, 2, none⟩ = some (.map (some W.heap.size)) ∧ (Instr.lookup 58 (.map (some W.heap.size)) (.int .i64 (aa : Int)) false).run Try.prog w' = .ok (.agg #[.int .i64 ag, .int .i64 (p : Int), .slice (some ⟨g, 0, none⟩) vs.length c]) w') (first | with_reducible exact HCK.out _ hacc)
            (first | (go_at_call 71; refine (HRO.out _ hacc).mono ?_; rintro e wB ⟨v, rfl, hown, hbX⟩; obtain ⟨a3, g3, c3, rfl, hg3, hin⟩ := ints_of_row hown; have HIN : Hid (Ints wB a3 g3 rl) := hin; have hac2 : Below wr.heap.size wr wB := hacc.trans (hbX.mono hacc.size); clear hacc hbX hown hg3 hin; have hacc := hac2; clear hac2) | (go_at_call 70; refine (HAL.out _ _ _ hacc HIN.out.nums).mono ?_; rintro e wC ⟨rfl, hbX⟩; have hac2 : Below wr.heap.size wr wC := hacc.trans (hbX.mono hacc.size); clear hacc hbX; have hacc := hac2; clear hac2))
          all_goals
            have HBC : Hid (Below R.heap.size R wC) := HB.out.trans (hacc.mono HB.out.size)
            have HBE : Hid (Below W.heap.size W wC) := HBWr.out.trans (hacc.mono HBWr.out.size)
            clear hacc t0 t1 t2 t3 e5
            cases an with
            | false =>
              have HR2 : Hid (nurB xs z ws = false) := by
                show nurB xs z ws = false
                rw [HNB2.out]; exact names_no (k := k + 1) (by rw [HTK.out]; simp)
              obtain ⟨v0, v1, v2, vf⟩ := HTr.out wC HBE.out
              have z0 := vf 0
              have z1 := vf 1
              have z2 := vf 2
              have HT : Hid (Tri (w.heap.size + 1) (.slice none 0 0) (.slice none 0 0) (.map none) (((wC.setCell ⟨w.heap.size + 1, 0, none⟩ (.slice none 0 0)).setCell ⟨w.heap.size + 1, 1, none⟩ (.slice none 0 0)).setCell ⟨w.heap.size + 1, 2, none⟩ (.map none))) := (HTr.out wC HBE.out).put _ _ _
              have HBZ : Hid (Below w.heap.size w (((wC.setCell ⟨w.heap.size + 1, 0, none⟩ (.slice none 0 0)).setCell ⟨w.heap.size + 1, 1, none⟩ (.slice none 0 0)).setCell ⟨w.heap.size + 1, 2, none⟩ (.map none))) := put_below (HB0.out.trans (HBE.out.mono HB0.out.size)) (by omega) _ _ _
              clear vf
              go_wp2
              refine bodyPost_ret (v := .tuple #[.agg #[.slice none 0 0, .slice none 0 0, .map none], .bool false]) ?_ rfl (open_no HR2.out rfl HBZ.out)
              obtain ⟨q0, q1, q2, _⟩ := HT.out
              simp [results, Try.results39, go_sem, q0, q1, q2]
            | true =>
              have HOK2 : Hid (namesB xs ws L (L.take (k + 1)) = true) := by
                show namesB xs ws L (L.take (k + 1)) = true
                rw [HTK.out, HOK.out]; rfl
              go_wp2
              go_roundw
              case rel => exact ⟨k + 1, by have := HKN.out; omega, by go_num, HOK2.out, HBC.out⟩
              case measure => have := HKN.out; simp [intOf]; omega
        · obtain rfl : k = L.length := by omega
          have HR2 : Hid (nurB xs z ws = true) := by
            show nurB xs z ws = true
            have := HOK.out
            rw [List.take_length] at this
            rw [HNB2.out, this]
          obtain ⟨v0, v1, v2, vf⟩ := HTr.out wr HBWr.out
          have z0 := vf 0
          have z1 := vf 1
          have z2 := vf 2
          obtain ⟨t0, t1, t2, _⟩ := HTc.out
          have hgr := put_grown wr (w.heap.size + 1) (.slice a xs.length cap) (.slice sa L.length sc) (.map (some W.heap.size))
          have HT : Hid (Tri (w.heap.size + 1) (.slice a xs.length cap) (.slice sa L.length sc) (.map (some W.heap.size)) (((wr.setCell ⟨w.heap.size + 1, 0, none⟩ (.slice a xs.length cap)).setCell ⟨w.heap.size + 1, 1, none⟩ (.slice sa L.length sc)).setCell ⟨w.heap.size + 1, 2, none⟩ (.map (some W.heap.size)))) := (HTr.out wr HBWr.out).put _ _ _
          have HBZ : Hid (Below w.heap.size w (((wr.setCell ⟨w.heap.size + 1, 0, none⟩ (.slice a xs.length cap)).setCell ⟨w.heap.size + 1, 1, none⟩ (.slice sa L.length sc)).setCell ⟨w.heap.size + 1, 2, none⟩ (.map (some W.heap.size)))) := put_below (HB0.out.trans (HBWr.out.mono HB0.out.size)) (by omega) _ _ _
          have HNZ : Hid (Nums (((wr.setCell ⟨w.heap.size + 1, 0, none⟩ (.slice a xs.length cap)).setCell ⟨w.heap.size + 1, 1, none⟩ (.slice sa L.length sc)).setCell ⟨w.heap.size + 1, 2, none⟩ (.map (some W.heap.size))) sa (numsOf L)) := ((HSI.out.below HB.out).grown hgr (by have := HSG.out; have := HSZ.out; omega)).nums
          have HOZ : Hid (Objs (((wr.setCell ⟨w.heap.size + 1, 0, none⟩ (.slice a xs.length cap)).setCell ⟨w.heap.size + 1, 1, none⟩ (.slice sa L.length sc)).setCell ⟨w.heap.size + 1, 2, none⟩ (.map (some W.heap.size))) w.heap.size s W.heap.size L.length xs ws L) := (HOj.out.kept hgr (fun r q => .inl (by cases q; have := HSZ.out; omega)) (fun r q => by cases q; have := HSZ.out; omega)).mono (by have := HSZ.out; omega)
          clear vf hgr
          go_wp2
          refine bodyPost_ret (v := .tuple #[.agg #[.slice a xs.length cap, .slice sa L.length sc, .map (some W.heap.size)], .bool true]) ?_ rfl (open_yes HR2.out HFN.out rfl HBZ.out HNZ.out (.inr ⟨s, _, _, rfl, HOZ.out⟩) (HLW0.out.below HBZ.out))
          obtain ⟨q0, q1, q2, _⟩ := HT.out
          simp [results, Try.results39, go_sem, q0, q1, q2]
theorem opened_any (w : World) (a : Option Addr) (cap : Nat) (xs : List ByteArray) (z : Int) (a2 : Option Addr) (n vcap : Nat) (ws : List Int) (hx : ws.length = n) (hxn : xs.length ≤ 1048576) (hl : Strs w a xs) (hz : ∀ i (hi : i < xs.length), xs[i].size ≤ 1048576) (hn : n ≤ 1048576) (hcap : n ≤ vcap) (hv : Nums w a2 ws) (hh : ∀ x ∈ ws, x < 9223372036854775808) :
    Calls Try.prog 39 #[.slice a xs.length cap, .agg #[.int .i64 z, .slice a2 n vcap]] w fun e w' => OpenAns xs z ws w e w' := by
  cases hp : preN xs z ws with
  | false => exact opened_early w a cap xs z a2 n vcap ws hx hxn hl hz hn hp
  | true => exact opened_late w a cap xs z a2 n vcap ws hx hxn hl hz hn hcap hv hh hp
end Go.Proofs.Ytngpmohmnpbcnaa.nu
