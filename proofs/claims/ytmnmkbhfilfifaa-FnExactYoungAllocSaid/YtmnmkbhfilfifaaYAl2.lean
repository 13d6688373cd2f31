/-
  A new object, by the program.
-/
import Derived.Test.YtmnmkbhfilfifaaYAl1
namespace Go.Proofs.Ytmnmkbhfilfifaa.nu
open Go.RowKit
open kinds ints ref obj

theorem al_code (xs : List ByteArray) (t : Int) (p : Nat) (h : t = (p : Int)) (hp : p < xs.length) : kd xs t = xs[p] := by rw [h]; exact kd_at p hp
theorem yref_in (n : Int) (w : World) (h0 : 0 ≤ n) (h1 : n ≤ 399) :
    Calls Try.prog 54 #[.int .i64 n] w fun e w' => e = .returned (.int .i64 (2 * n + 1)) ∧ w' = w := by
  go_enter Try.func54, Try.ntmps54
  go_wp2_with fail
  refine (youngOf_in n w h0 h1).mono ?_
  rintro e w1 ⟨rfl, rfl⟩
  go_wp2_with fail
  refine (youngNumber n w h0 h1).mono ?_
  rintro e w1 ⟨rfl, rfl⟩
  go_wp2
  go_ret
  exact ⟨rfl, rfl⟩
set_option maxHeartbeats 2000000 in
set_option maxRecDepth 20000 in
theorem impl_yalloc (w : World) (a : Option Addr) (cap : Nat) (xs : List ByteArray) (z : Int) (a2 : Option Addr) (n vcap : Nat) (ws : List Int) (t : Int) (hx : ws.length = n) (hxn : xs.length ≤ 1048576) (hl : Strs w a xs) (hz : ∀ i (hi : i < xs.length), xs[i].size ≤ 1048576) (hn : n ≤ 1048576) (hcap : n ≤ vcap) (hv : Nums w a2 ws) (hh : ∀ x ∈ ws, x < 9223372036854775808) :
    Calls Try.prog 29 #[.slice a xs.length cap, .agg #[.int .i64 z, .slice a2 n vcap], .int .i64 t] w fun e w' => AlAns xs z ws t w e w' := by
  obtain ⟨W, hW⟩ : ∃ W, W = (w.alloc (.cells #[.int .i64 z, .slice a2 n vcap] 30)).alloc (.cells #[.int .i64 0, .slice none 0 0] 30) := ⟨_, rfl⟩
  have HW : Hid (W = (w.alloc (.cells #[.int .i64 z, .slice a2 n vcap] 30)).alloc (.cells #[.int .i64 0, .slice none 0 0] 30)) := hW
  obtain ⟨hb0, hsz, c0, c1, r0, r1, rf⟩ := boxT _ w z a2 n vcap W hW
  have HK : Hid (∀ w', Below W.heap.size W w' → w'.cell? ⟨w.heap.size, 0, none⟩ = some (.int .i64 z) ∧ w'.cell? ⟨w.heap.size, 1, none⟩ = some (.slice a2 n vcap)) := fun w' h =>
    ⟨by rw [h.cell (p := ⟨w.heap.size, 0, none⟩) (by show w.heap.size < _; omega)]; exact c0, by rw [h.cell (p := ⟨w.heap.size, 1, none⟩) (by show w.heap.size < _; omega)]; exact c1⟩
  have HRC : Hid (∀ w', Below W.heap.size W w' → w'.cell? ⟨w.heap.size + 1, 0, none⟩ = some (.int .i64 0) ∧ w'.cell? ⟨w.heap.size + 1, 1, none⟩ = some (.slice none 0 0) ∧ ∀ k, w'.frozen? ⟨w.heap.size + 1, k, none⟩ = false) := fun w' h =>
    ⟨by rw [h.cell (p := ⟨w.heap.size + 1, 0, none⟩) (by show w.heap.size + 1 < _; omega)]; exact r0, by rw [h.cell (p := ⟨w.heap.size + 1, 1, none⟩) (by show w.heap.size + 1 < _; omega)]; exact r1, fun k => by rw [h.frozen (p := ⟨w.heap.size + 1, k, none⟩) (by show w.heap.size + 1 < _; omega)]; exact rf k⟩
  have HB0 : Hid (Below w.heap.size w W) := hb0
  have HSZ : Hid (W.heap.size = w.heap.size + 2) := hsz
  have hlW := hl.below hb0
  have hvW := hv.below hb0
  have HLS : Hid (∀ w', Below W.heap.size W w' → Strs w' a xs) := fun w' h => hlW.below h
  have HNU : Hid (∀ w', Below W.heap.size W w' → Nums w' a2 ws) := fun w' h => hvW.below h
  have HX : Hid (ws.length = n) := hx
  have HAC : Hid (alC xs z ws t = if nurB xs z ws = false then 1 else if placeB xs.length t = false then 2 else if (ws.length : Int) + 1 + ((kd xs t).size : Int) ≤ z then 0 else 3) := rfl
  have HRT : Hid (nurB xs z ws = true → typesOk xs = true ∧ z ≤ 400 ∧ (ws.length : Int) ≤ z) := fun h => by
    have h1 := preN_facts (nurB_found h).1
    exact ⟨h1.1, h1.2.2.1, h1.2.2.2⟩
  have HNO : Hid (Calls _ _ _ W _) := impl_nurok W a cap xs z a2 n vcap ws hx hxn hlW hz hn hcap hvW hh
  have HPI : Hid (∀ w : World, Calls _ _ _ w _) := fun w => isPlace_any w t xs.length
  clear hW hl hv hb0 hx hh hz hsz r0 r1 rf hlW hvW
  go_enter Try.func29, Try.ntmps29
  go_wp2_with (rw [← HW.out])
  refine HNO.out.mono ?_
  rintro e w2 ⟨rfl, hb2⟩
  have HW2 : Hid (Below W.heap.size W w2) := hb2
  clear hb2 c0 c1
  cases hnb : nurB xs z ws with
  | false =>
    have HF : Hid (alC xs z ws t = 1) := by show _ = (1 : Int); rw [HAC.out, hnb]; rfl
    clear hnb
    obtain ⟨r0, r1, rf⟩ := HRC.out w2 HW2.out
    have z0 := rf 0
    have z1 := rf 1
    have HP2 : Hid (∀ x0 x1, _) := pair_set r0 r1
    have HBE : Hid (∀ x0 x1, Below w.heap.size w ((w2.setCell ⟨w.heap.size + 1, 0, none⟩ x0).setCell ⟨w.heap.size + 1, 1, none⟩ x1)) := fun x0 x1 => ((HB0.out.trans (HW2.out.mono HB0.out.size)).setCell (p := ⟨w.heap.size + 1, 0, none⟩) (by show w.heap.size ≤ w.heap.size + 1; omega) _).setCell (p := ⟨w.heap.size + 1, 1, none⟩) (by show w.heap.size ≤ w.heap.size + 1; omega) _
    clear rf
    go_wp2
    refine bodyPost_ret (v := .tuple #[.agg #[.int .i64 0, .slice none 0 0], .int .i64 0, .int .i64 1]) ?_ rfl (al_no HF.out (by decide) rfl (HBE.out _ _))
    obtain ⟨q0, q1⟩ := HP2.out (.int .i64 0) (.slice none 0 0)
    simp [results, Try.results29, go_sem, q0, q1]
  | true =>
  obtain ⟨htp, hz4, hwz⟩ := HRT.out hnb
  rw [hnb] at HAC
  cases hpb : placeB xs.length t with
  | false =>
    have HF : Hid (alC xs z ws t = 2) := by show _ = (2 : Int); rw [HAC.out, hpb]; rfl
    rw [hpb] at HPI
    clear hnb hpb
    go_wp2_with fail
    refine (HPI.out w2).mono ?_
    rintro e w3 ⟨rfl, hw3⟩
    subst hw3
    obtain ⟨r0, r1, rf⟩ := HRC.out _ HW2.out
    have z0 := rf 0
    have z1 := rf 1
    have HP2 : Hid (∀ x0 x1, _) := pair_set r0 r1
    have HBE : Hid (∀ x0 x1, Below w.heap.size w ((w3.setCell ⟨w.heap.size + 1, 0, none⟩ x0).setCell ⟨w.heap.size + 1, 1, none⟩ x1)) := fun x0 x1 => ((HB0.out.trans (HW2.out.mono HB0.out.size)).setCell (p := ⟨w.heap.size + 1, 0, none⟩) (by show w.heap.size ≤ w.heap.size + 1; omega) _).setCell (p := ⟨w.heap.size + 1, 1, none⟩) (by show w.heap.size ≤ w.heap.size + 1; omega) _
    clear rf
    go_wp2
    refine bodyPost_ret (v := .tuple #[.agg #[.int .i64 0, .slice none 0 0], .int .i64 0, .int .i64 2]) ?_ rfl (al_no HF.out (by decide) rfl (HBE.out _ _))
    obtain ⟨q0, q1⟩ := HP2.out (.int .i64 0) (.slice none 0 0)
    simp [results, Try.results29, go_sem, q0, q1]
  | true =>
  obtain ⟨p, rfl, hpl⟩ := placeB_nat hpb
  rw [hpb, kd_at p hpl] at HAC
  rw [hpb] at HPI
  have hs23 : 1 ≤ xs[p].size ∧ xs[p].size ≤ 23 := by
    have h1 := htp
    unfold typesOk at h1
    rw [Bool.and_eq_true, List.all_eq_true] at h1
    exact isType_size (h1.2 _ (List.getElem_mem hpl))
  obtain ⟨b2, o2, rfl, s0⟩ := HLS.out w2 HW2.out p hpl
  have HSC : Hid (∀ w', Below w2.heap.size w2 w' → w'.cell? ⟨b2, o2 + p, none⟩ = some (.string xs[p])) := fun w' h => by rw [h.cell (p := ⟨b2, o2 + p, none⟩) (World.block_lt_of_cell? _ _ s0)]; exact s0
  have hpi : (p : Int) < (xs.length : Int) := by omega
  have hp0 : (0 : Int) ≤ (p : Int) := by omega
  have HKD : Hid (kd xs (p : Int) = xs[p]) := kd_at p hpl
  have hn4 : n ≤ 400 := by have := HX.out; omega
  have hpb4 : p ≤ 1048576 := by omega
  clear hnb hpb
  generalize xs[p] = s at HAC hs23 s0 HSC HKD
  clear hpl htp
  -- the fields, and the object
  obtain ⟨M, hM⟩ : ∃ M, M = madeInts w2 s.size := ⟨_, rfl⟩
  have hmk := run_ints s.size (by omega) w2
  have hbM : Below w2.heap.size w2 M := by rw [hM]; exact madeInts_below w2 s.size
  have hiM : Ints M (some ⟨w2.heap.size, 0, none⟩) w2.heap.size (List.replicate s.size 0) := by rw [hM]; exact made_ints w2 s.size
  rw [← hM] at hmk
  obtain ⟨V, hV⟩ : ∃ V, V = M.alloc (.cells #[.int .i64 0, .int .i64 (p : Int), .slice (some ⟨w2.heap.size, 0, none⟩) s.size s.size] 71) := ⟨_, rfl⟩
  obtain ⟨vb, hvb⟩ : ∃ vb, vb = M.heap.size := ⟨_, rfl⟩
  obtain ⟨mb, hmb⟩ : ∃ mb, mb = w2.heap.size := ⟨_, rfl⟩
  have HV : Hid (V = M.alloc (.cells #[.int .i64 0, .int .i64 (p : Int), .slice (some ⟨w2.heap.size, 0, none⟩) s.size s.size] 71)) := hV
  have HVB : Hid (vb = M.heap.size) := hvb
  have hbV : Below M.heap.size M V := by rw [hV]; exact (Below.refl _ _).alloc (Nat.le_refl _) _
  have htV : Tri vb (.int .i64 0) (.int .i64 (p : Int)) (.slice (some ⟨w2.heap.size, 0, none⟩) s.size s.size) V := by rw [hV, hvb]; exact Tri.start M _ _ _ _
  have HVW : Hid (Below W.heap.size W V) := HW2.out.trans ((hbM.trans (hbV.mono hbM.size)).mono HW2.out.size)
  have hiV := hiM.below hbV
  have HTV : Hid (∀ w', Below V.heap.size V w' → Tri vb (.int .i64 0) (.int .i64 (p : Int)) (.slice (some ⟨w2.heap.size, 0, none⟩) s.size s.size) w') := fun w' h => htV.below h
  have HIV : Hid (∀ w', Below V.heap.size V w' → Ints w' (some ⟨w2.heap.size, 0, none⟩) w2.heap.size (List.replicate s.size 0)) := fun w' h => hiV.below h
  obtain ⟨L, hL⟩ : ∃ L, L = (4 * (p : Int)) :: List.replicate s.size 0 := ⟨_, rfl⟩
  obtain ⟨m, hm⟩ : ∃ m, m = s.size + 1 := ⟨_, rfl⟩
  have HLL : Hid (L.length = m) := by show L.length = m; rw [hL, hm]; simp
  have HM : Hid (m = s.size + 1) := hm
  have HLE : Hid (L = (4 * (p : Int)) :: List.replicate s.size 0) := hL
  have HWD : Hid (∀ w', Below V.heap.size V w' → Calls Try.prog 53 #[.agg #[.int .i64 0, .int .i64 (p : Int), .slice (some ⟨w2.heap.size, 0, none⟩) s.size s.size]] w' fun e w'' => ∃ a g c, e = .returned (.slice a m c) ∧ w'.heap.size ≤ g ∧ Ints w'' a g L ∧ Below w'.heap.size w' w'') := fun w' h => (words_any w' (p : Int) (some ⟨w2.heap.size, 0, none⟩) s.size s.size (List.replicate s.size 0) (by simp) (by omega) hp0 (by omega) ((HIV.out w' h).nums)).mono fun e w'' h9 => by
    obtain ⟨a, g, c, e9, g9, i9, b9⟩ := h9
    rw [← hL] at i9
    exact ⟨a, g, c, by rw [e9, ← hL, HLL.out], g9, i9, b9⟩
  have HKV : Hid (∀ w', Below V.heap.size V w' → w'.cell? ⟨w.heap.size, 0, none⟩ = some (.int .i64 z) ∧ w'.cell? ⟨w.heap.size, 1, none⟩ = some (.slice a2 n vcap)) := fun w' h => HK.out w' (HVW.out.trans (h.mono HVW.out.size))
  have HNV : Hid (∀ w', Below V.heap.size V w' → Nums w' a2 ws) := fun w' h => HNU.out w' (HVW.out.trans (h.mono HVW.out.size))
  have HCT : Hid (∀ (wA : World) (aA : Option Addr) (cA : Nat), Below V.heap.size V wA → Nums wA aA L → Calls Try.prog 52 #[.slice (some ⟨wA.heap.size, 0, none⟩) 2 2] (wA.alloc (.cells #[.slice a2 n vcap, .slice aA m cA] 23)) fun e w' => ∃ a g c, e = .returned (.slice a (n + m) c) ∧ wA.heap.size ≤ g ∧ Ints w' a g (ws ++ L) ∧ Below wA.heap.size wA w') := fun wA aA cA h q => by
    obtain ⟨Z, hZ⟩ : ∃ Z, Z = wA.alloc (.cells #[.slice a2 n vcap, .slice aA m cA] 23) := ⟨_, rfl⟩
    have hbZ : Below wA.heap.size wA Z := by rw [hZ]; exact (Below.refl _ _).alloc (Nat.le_refl _) _
    have z0 : Z.cell? ⟨wA.heap.size, 0, none⟩ = some (.slice a2 n vcap) := by rw [hZ, World.cell?_alloc_new]; rfl
    have z1 : Z.cell? ⟨wA.heap.size, 1, none⟩ = some (.slice aA m cA) := by rw [hZ, World.cell?_alloc_new]; rfl
    rw [← hZ]
    have hm0 : 0 < n + m := by have := HM.out; omega
    have hm4 : m ≤ 524288 := by have := HM.out; omega
    refine (concat_two Z wA.heap.size a2 aA n m vcap cA ws L HX.out HLL.out hm0 (by omega) hm4 z0 z1 ((HNV.out wA h).below hbZ) (q.below hbZ)).mono fun e w' h9 => ?_
    obtain ⟨a, g, c, e9, g9, i9, b9⟩ := h9
    exact ⟨a, g, c, by rw [e9, List.length_append, HX.out, HLL.out], by have := hbZ.size; omega, i9, hbZ.trans (b9.mono hbZ.size)⟩
  clear hM hbM hiM hV hvb hmb hbV hiV htV hL hm
  go_wp2_with fail
  refine (HPI.out w2).mono ?_
  rintro e w3 ⟨rfl, hw3⟩
  have hw4 := hw3.symm
  subst hw4
  clear hw3
  go_wp2_with (first | (rw [← HV.out, ← HVB.out]) | (rw [← HV.out]))
  try rw [← HVB.out]
  have HS6 : Hid (∀ w', Below V.heap.size V w' → w'.cell? ⟨w.heap.size, 1, none⟩ = some (.slice a2 n vcap) ∧ w'.cell? ⟨vb, 0, none⟩ = some (.int .i64 0) ∧ w'.cell? ⟨vb, 1, none⟩ = some (.int .i64 (p : Int)) ∧ w'.cell? ⟨vb, 2, none⟩ = some (.slice (some ⟨w2.heap.size, 0, none⟩) s.size s.size)) := fun w' h => by
    obtain ⟨v0, v1, v2, _⟩ := HTV.out w' h
    exact ⟨(HKV.out w' h).2, v0, v1, v2⟩
  have hacc : Below V.heap.size V V.drew := (Below.refl _ _).drew
  obtain ⟨k0, k1⟩ := HKV.out V (Below.refl _ _)
  obtain ⟨v0, v1, v2, _⟩ := HTV.out V (Below.refl _ _)
  clear s0
  go_region_held3 (fun w' => w'.cell? ⟨w.heap.size, 1, none⟩ = some (.slice a2 n vcap) ∧ w'.cell? ⟨vb, 0, none⟩ = some (.int .i64 0) ∧ w'.cell? ⟨vb, 1, none⟩ = some (.int .i64 (p : Int)) ∧ w'.cell? ⟨vb, 2, none⟩ = some (.slice (some ⟨w2.heap.size, 0, none⟩) s.size s.size)) (first | with_reducible exact HS6.out _ hacc | with_reducible exact HS6.out _ (HAB.out _))
    (first | (go_at_call 53; refine (HWD.out _ hacc).mono ?_; rintro e wA ⟨aA, gA, cA, rfl, hgA, hiA, hbA⟩; have HIA : Hid (Ints wA aA gA L) := hiA; have HAA : Hid (Below V.heap.size V wA) := hacc.trans (hbA.mono hacc.size); have HAB : Hid (∀ x, Below V.heap.size V (wA.alloc x)) := fun x => HAA.out.trans (((Below.refl _ _).alloc (Nat.le_refl _) x).mono HAA.out.size); have hac2 := HAA.out; clear hacc hbA hiA hgA; have hacc := hac2; clear hac2) | (go_at_call 52; refine (HCT.out wA aA cA HAA.out HIA.out.nums).mono ?_; rintro e w5 ⟨a5, g5, c5, rfl, hg5, hi5, hb5⟩; have HI5 : Hid (Ints w5 a5 g5 (ws ++ L)) := hi5; have HG5 : Hid (wA.heap.size ≤ g5) := hg5; have hac2 : Below V.heap.size V w5 := HAA.out.trans (hb5.mono HAA.out.size); clear hacc hb5 hi5 hg5; have hacc := hac2; clear hac2))
  all_goals
    have HW5 : Hid (Below W.heap.size W w5) := HVW.out.trans (hacc.mono HVW.out.size)
    have HGA : Hid (w.heap.size + 2 ≤ g5) := by show w.heap.size + 2 ≤ g5; have := HSZ.out; have := HVW.out.size; have := HAA.out.size; have := HG5.out; omega
    clear hacc k0 k1 v0 v1 v2
    obtain ⟨k0, k1⟩ := HK.out w5 HW5.out
    by_cases hfit : (ws.length : Int) + 1 + (s.size : Int) ≤ z
    · have HF : Hid (alC xs z ws (p : Int) = 0) := by show _ = (0 : Int); rw [HAC.out]; simp [hfit]
      have hlt : ¬ z < ((n + m : Nat) : Int) := by have := HX.out; have := HM.out; omega
      have HYR : Hid (∀ w', Calls _ _ _ w' _) := fun w' => yref_in (n : Int) w' (by omega) (by have := HX.out; omega)
      obtain ⟨r0, r1, rf⟩ := HRC.out w5 HW5.out
      have z0 := rf 0
      have z1 := rf 1
      have HP2 : Hid (∀ x0 x1, _) := pair_set r0 r1
      have HBE : Hid (∀ x0 x1, Below w.heap.size w ((w5.setCell ⟨w.heap.size + 1, 0, none⟩ x0).setCell ⟨w.heap.size + 1, 1, none⟩ x1)) := fun x0 x1 => ((HB0.out.trans (HW5.out.mono HB0.out.size)).setCell (p := ⟨w.heap.size + 1, 0, none⟩) (by show w.heap.size ≤ w.heap.size + 1; omega) _).setCell (p := ⟨w.heap.size + 1, 1, none⟩) (by show w.heap.size ≤ w.heap.size + 1; omega) _
      clear rf
      have HI6 : Hid (∀ x0 x1, Ints ((w5.setCell ⟨w.heap.size + 1, 0, none⟩ x0).setCell ⟨w.heap.size + 1, 1, none⟩ x1) a5 g5 (ws ++ L)) := fun x0 x1 => (HI5.out.grown (grown_set _ _ _ _) (by have := HGA.out; omega)).grown (grown_set _ _ _ _) (by have := HGA.out; omega)
      have HKE : Hid (∀ x0 x1, ((w5.setCell ⟨w.heap.size + 1, 0, none⟩ x0).setCell ⟨w.heap.size + 1, 1, none⟩ x1).cell? ⟨w.heap.size, 0, none⟩ = some (.int .i64 z) ∧ ((w5.setCell ⟨w.heap.size + 1, 0, none⟩ x0).setCell ⟨w.heap.size + 1, 1, none⟩ x1).cell? ⟨w.heap.size, 1, none⟩ = some (.slice a2 n vcap)) := fun x0 x1 => by
        obtain ⟨k0, k1⟩ := HK.out w5 HW5.out
        simp [go_sem, k0, k1]
      have hacc : Below W.heap.size W w5.drew := HW5.out.drew
      go_wp2_with fail
      go_region_held3 (fun w' => w'.cell? ⟨w.heap.size, 0, none⟩ = some (.int .i64 z) ∧ w'.cell? ⟨w.heap.size, 1, none⟩ = some (.slice a2 n vcap)) (first | with_reducible exact HK.out _ hacc | with_reducible exact HKE.out _ _ | exact HKE.out _ _)
        (first | (go_at_call 54; refine (HYR.out _).mono ?_; rintro e w6 ⟨rfl, rfl⟩))
      all_goals
        clear hacc k0 k1
        go_wp2
        refine bodyPost_ret (v := .tuple #[.agg #[.int .i64 z, .slice a5 (n + m) c5], .int .i64 (2 * (n : Int) + 1), .int .i64 0]) ?_ rfl (al_yes HF.out ?_)
        · obtain ⟨q0, q1⟩ := HP2.out (.int .i64 z) (.slice a5 (n + m) c5)
          simp [results, Try.results29, go_sem, q0, q1]
        · rw [HKD.out, ← HLE.out]
          exact ⟨a5, g5, c5, by rw [List.length_append, HX.out, HLL.out], by have := HGA.out; omega, (HI6.out _ _).below (Below.refl _ _).drew, (HBE.out _ _).drew⟩
    · have HF : Hid (alC xs z ws (p : Int) = 3) := by show _ = (3 : Int); rw [HAC.out]; simp [hfit]
      have hlt : z < ((n + m : Nat) : Int) := by have := HX.out; have := HM.out; omega
      obtain ⟨r0, r1, rf⟩ := HRC.out w5 HW5.out
      have z0 := rf 0
      have z1 := rf 1
      have HP2 : Hid (∀ x0 x1, _) := pair_set r0 r1
      have HBE : Hid (∀ x0 x1, Below w.heap.size w ((w5.setCell ⟨w.heap.size + 1, 0, none⟩ x0).setCell ⟨w.heap.size + 1, 1, none⟩ x1)) := fun x0 x1 => ((HB0.out.trans (HW5.out.mono HB0.out.size)).setCell (p := ⟨w.heap.size + 1, 0, none⟩) (by show w.heap.size ≤ w.heap.size + 1; omega) _).setCell (p := ⟨w.heap.size + 1, 1, none⟩) (by show w.heap.size ≤ w.heap.size + 1; omega) _
      clear rf
      go_wp2
      refine bodyPost_ret (v := .tuple #[.agg #[.int .i64 0, .slice none 0 0], .int .i64 0, .int .i64 3]) ?_ rfl (al_no HF.out (by decide) rfl (HBE.out _ _))
      obtain ⟨q0, q1⟩ := HP2.out (.int .i64 0) (.slice none 0 0)
      simp [results, Try.results29, go_sem, q0, q1]
end Go.Proofs.Ytmnmkbhfilfifaa.nu
