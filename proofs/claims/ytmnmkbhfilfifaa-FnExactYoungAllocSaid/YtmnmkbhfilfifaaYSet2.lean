/-
  A value is set in a young object, by the specification.
-/
import Derived.Test.YtmnmkbhfilfifaaYSet1
namespace Go.Proofs.Ytmnmkbhfilfifaa.nu
open Go.RowKit
open kinds ints ref obj

set_option maxHeartbeats 2000000 in
set_option maxRecDepth 20000 in
theorem spec_l8copy (w : World) (z : Int) (a2 : Option Addr) (n vcap : Nat) (ws : List Int) (hx : ws.length = n) (h0 : 0 < n) (hn4 : n ≤ 1048576) (hv : Nums w a2 ws) :
    Calls Try.prog 50 #[.agg #[.int .i64 z, .slice a2 n vcap]] w fun e w' => ∃ g c, e = .returned (.agg #[.int .i64 z, .slice (some ⟨g, 0, none⟩) n c]) ∧ w.heap.size ≤ g ∧ Ints w' (some ⟨g, 0, none⟩) g ws ∧ Below w.heap.size w w' := by
  obtain ⟨i0, hi, hzz⟩ := Option.map_eq_some_iff.1 infoInt64
  simp only [Prod.mk.injEq] at hzz
  obtain ⟨hz0, hz1, hz2⟩ := hzz
  obtain ⟨W, hW⟩ : ∃ W, W = (w.alloc (.cells #[.int .i64 z, .slice a2 n vcap] 30)).alloc (.cells #[.int .i64 0, .slice none 0 0] 30) := ⟨_, rfl⟩
  have HW : Hid (W = (w.alloc (.cells #[.int .i64 z, .slice a2 n vcap] 30)).alloc (.cells #[.int .i64 0, .slice none 0 0] 30)) := hW
  obtain ⟨hb0, hsz, c0, c1, r0, r1, rf⟩ := boxT _ w z a2 n vcap W hW
  obtain ⟨b, off, rfl, hx9⟩ := (hv.below hb0) 0 (by omega)
  clear hx9
  have HCS : Hid (∀ w', Below W.heap.size W w' → w'.cell? ⟨w.heap.size, 0, none⟩ = some (.int .i64 z) ∧ w'.cell? ⟨w.heap.size, 1, none⟩ = some (.slice (some ⟨b, off, none⟩) n vcap)) := fun w' h =>
    ⟨by rw [h.cell (p := ⟨w.heap.size, 0, none⟩) (by show w.heap.size < _; omega)]; exact c0, by rw [h.cell (p := ⟨w.heap.size, 1, none⟩) (by show w.heap.size < _; omega)]; exact c1⟩
  have HC2 : Hid (∀ w' x0 x1, Below W.heap.size W w' → ((w'.setCell ⟨w.heap.size + 1, 0, none⟩ x0).setCell ⟨w.heap.size + 1, 1, none⟩ x1).cell? ⟨w.heap.size, 0, none⟩ = some (.int .i64 z) ∧ ((w'.setCell ⟨w.heap.size + 1, 0, none⟩ x0).setCell ⟨w.heap.size + 1, 1, none⟩ x1).cell? ⟨w.heap.size, 1, none⟩ = some (.slice (some ⟨b, off, none⟩) n vcap)) := fun w' x0 x1 h =>
    ⟨by rw [World.cell?_setCell_other _ _ _ _ (cell_ne2 _ _ _ _ (by omega)), World.cell?_setCell_other _ _ _ _ (cell_ne2 _ _ _ _ (by omega))]; exact (HCS.out w' h).1, by rw [World.cell?_setCell_other _ _ _ _ (cell_ne2 _ _ _ _ (by omega)), World.cell?_setCell_other _ _ _ _ (cell_ne2 _ _ _ _ (by omega))]; exact (HCS.out w' h).2⟩
  have HRS : Hid (∀ w', Below W.heap.size W w' → w'.cell? ⟨w.heap.size + 1, 0, none⟩ = some (.int .i64 0) ∧ w'.cell? ⟨w.heap.size + 1, 1, none⟩ = some (.slice none 0 0) ∧ ∀ k, w'.frozen? ⟨w.heap.size + 1, k, none⟩ = false) := fun w' h =>
    ⟨by rw [h.cell (p := ⟨w.heap.size + 1, 0, none⟩) (by show w.heap.size + 1 < _; omega)]; exact r0, by rw [h.cell (p := ⟨w.heap.size + 1, 1, none⟩) (by show w.heap.size + 1 < _; omega)]; exact r1, fun k => by rw [h.frozen (p := ⟨w.heap.size + 1, k, none⟩) (by show w.heap.size + 1 < _; omega)]; exact rf k⟩
  have HB0 : Hid (Below w.heap.size w W) := hb0
  have HSZ : Hid (W.heap.size = w.heap.size + 2) := hsz
  have HBX : Hid (Below W.heap.size W (W.alloc (.cells #[] 2)).drew) := ((Below.refl _ _).alloc (Nat.le_refl _) _).drew
  have HBd : Hid (Below W.heap.size W W.drew) := (Below.refl _ _).drew
  have HOX : Hid ((W.alloc (.cells #[] 2)).drew.ownsRow W.heap.size 2 1 (.slice (some ⟨W.heap.size, 0, none⟩) 0 0) 0 []) :=
    ⟨rfl, .inr ⟨W.heap.size, 0, #[], rfl, Nat.le_refl _, heap_alloc_new W _, Nat.le_refl _, Nat.zero_le _, rfl, rfl⟩⟩
  have HNU : Hid (Nums W (some ⟨b, off, none⟩) ws) := hv.below hb0
  have HNC : Hid (∀ j u, (ws.map (Value.int .i64))[j]? = some u → (W.alloc (.cells #[] 2)).drew.cell? ((⟨b, off, none⟩ : Addr).add j) = some u) := fun j u hj => by
    rw [List.getElem?_map] at hj
    obtain ⟨y, hy, rfl⟩ := Option.map_eq_some_iff.1 hj
    obtain ⟨hj', rfl⟩ := List.getElem?_eq_some_iff.1 hy
    obtain ⟨b', off', e, hc⟩ := (HNU.out.below HBX.out) j hj'
    simp only [Option.some.injEq, Addr.mk.injEq, and_true] at e
    obtain ⟨rfl, e2⟩ := e
    have hadd : (⟨b, off, none⟩ : Addr).add j = ⟨b, off + j, none⟩ := by unfold Addr.add; split <;> simp_all
    rw [hadd, e2]
    exact hc
  have HVN : Hid (ws.length = n) := hx
  have HLN : Hid ((ws.map (Value.int .i64)).length = n * 1) := by show (ws.map (Value.int .i64)).length = _; rw [List.length_map, HVN.out]; omega
  have H1C : Hid (∀ u ∈ ws.map (Value.int .i64), u.oneCell' = true) := fun u hu => by
    obtain ⟨y, _, rfl⟩ := List.mem_map.1 hu
    rfl
  have HN0 : Hid (0 < n) := h0
  have HN4 : Hid (n ≤ 1048576) := hn4
  clear hW hb0 hsz r0 r1 rf hv HNU hx
  go_enter Try.func50, Try.ntmps50
  go_wp2_with (rw [← HW.out])
  go_region_held3 (fun w' => w'.cell? ⟨w.heap.size, 0, none⟩ = some (.int .i64 z) ∧ w'.cell? ⟨w.heap.size, 1, none⟩ = some (.slice (some ⟨b, off, none⟩) n vcap))
      (first | with_reducible exact HCS.out _ HBd.out | with_reducible exact HCS.out _ HBX.out | with_reducible exact HCS.out _ h6 | with_reducible exact HC2.out _ _ _ h6)
      ((refine step_append_lies _ (by rfl) _ _ _ (by rfl) W.heap.size 2 i0 (.int .i64 0) 1 8 Try.underlying23 hi hz0 hz1 hz2 rfl (by decide) (.slice (some ⟨W.heap.size, 0, none⟩) 0 0) 0 [] (by rfl) HOX.out ⟨b, off, none⟩ n vcap (ws.map (Value.int .i64)) (by rfl) HLN.out HNC.out H1C.out HN0.out (by have := HN4.out; unfold maxLen; omega) (by have := HN4.out; omega) HBX.out.size _ rfl ?_; intro g cp w6 hown6 hgrow6 hat6 hlt6; have h6 : Below W.heap.size W w6 := own_step HOX.out HBX.out HBX.out.size hgrow6; obtain ⟨t0, t1, tf⟩ := HRS.out w6 h6; have y0 := tf 0; have y1 := tf 1))
  all_goals
    have hraw : w6.ownsRow W.heap.size 2 1 (.slice (some ⟨g, 0, none⟩) n cp) ws.length (ws.map (Value.int .i64)) := by
      rw [HVN.out]
      simpa using hown6
    obtain ⟨a9, g9, c9, e9, hg9, hi9⟩ := ints_of_row hraw
    simp only [Value.slice.injEq] at e9
    obtain ⟨rfl, _, rfl⟩ := e9
    have hgg : g = g9 := by
      have h0 := (hi9 0 (by rw [HVN.out]; exact HN0.out)).1
      simpa using h0
    subst hgg
    have HI6 : Hid (Ints w6 (some ⟨g, 0, none⟩) g ws) := hi9
    have HG6 : Hid (w.heap.size + 2 ≤ g) := by show w.heap.size + 2 ≤ g; have := HSZ.out; omega
    have HB6 : Hid (Below w.heap.size w w6) := HB0.out.trans (h6.mono HB0.out.size)
    have HP6 : Hid (∀ x0 x1, _) := pair_set t0 t1
    clear hown6 hraw hgrow6 hat6 hlt6 h6 hi9 hg9 c0 c1
    go_wp2
    refine bodyPost_ret (v := .agg #[.int .i64 z, .slice (some ⟨g, 0, none⟩) n cp]) ?_ rfl ⟨g, cp, rfl, by have := HG6.out; omega, (HI6.out.grown (grown_set _ _ _ _) (by have := HG6.out; omega)).grown (grown_set _ _ _ _) (by have := HG6.out; omega), (HB6.out.setCell (p := ⟨w.heap.size + 1, 0, none⟩) (by show w.heap.size ≤ w.heap.size + 1; omega) _).setCell (p := ⟨w.heap.size + 1, 1, none⟩) (by show w.heap.size ≤ w.heap.size + 1; omega) _⟩
    obtain ⟨q0, q1⟩ := HP6.out (.int .i64 z) (.slice (some ⟨g, 0, none⟩) n cp)
    simp [results, Try.results50, go_sem, q0, q1]
set_option maxHeartbeats 2000000 in
set_option maxRecDepth 20000 in
theorem spec_yset (w : World) (a : Option Addr) (cap : Nat) (xs : List ByteArray) (z : Int) (a2 : Option Addr) (n vcap : Nat) (ws : List Int) (r i v : Int) (hx : ws.length = n) (hxn : xs.length ≤ 1048576) (hl : Strs w a xs) (hz : ∀ i (hi : i < xs.length), xs[i].size ≤ 1048576) (hn : n ≤ 1048576) (hcap : n ≤ vcap) (hv : Nums w a2 ws) (hh : ∀ x ∈ ws, x < 9223372036854775808) :
    Calls Try.prog 36 #[.slice a xs.length cap, .agg #[.int .i64 z, .slice a2 n vcap], .int .i64 r, .int .i64 i, .int .i64 v] w fun e w' => SetAns xs z ws r i v w e w' := by
  obtain ⟨W, hW⟩ : ∃ W, W = (w.alloc (.cells #[.int .i64 z, .slice a2 n vcap] 30)).alloc (.cells #[.int .i64 0, .slice none 0 0] 30) := ⟨_, rfl⟩
  have HW : Hid (W = (w.alloc (.cells #[.int .i64 z, .slice a2 n vcap] 30)).alloc (.cells #[.int .i64 0, .slice none 0 0] 30)) := hW
  obtain ⟨hb0, hsz, c0, c1, r0, r1, rf⟩ := boxT _ w z a2 n vcap W hW
  have HK : Hid (∀ w', Below W.heap.size W w' → w'.cell? ⟨w.heap.size, 0, none⟩ = some (.int .i64 z) ∧ w'.cell? ⟨w.heap.size, 1, none⟩ = some (.slice a2 n vcap)) := fun w' h =>
    ⟨by rw [h.cell (p := ⟨w.heap.size, 0, none⟩) (by show w.heap.size < _; omega)]; exact c0, by rw [h.cell (p := ⟨w.heap.size, 1, none⟩) (by show w.heap.size < _; omega)]; exact c1⟩
  have HRC : Hid (∀ w', Below W.heap.size W w' → w'.cell? ⟨w.heap.size + 1, 0, none⟩ = some (.int .i64 0) ∧ w'.cell? ⟨w.heap.size + 1, 1, none⟩ = some (.slice none 0 0) ∧ ∀ k, w'.frozen? ⟨w.heap.size + 1, k, none⟩ = false) := fun w' h =>
    ⟨by rw [h.cell (p := ⟨w.heap.size + 1, 0, none⟩) (by show w.heap.size + 1 < _; omega)]; exact r0, by rw [h.cell (p := ⟨w.heap.size + 1, 1, none⟩) (by show w.heap.size + 1 < _; omega)]; exact r1, fun k => by rw [h.frozen (p := ⟨w.heap.size + 1, k, none⟩) (by show w.heap.size + 1 < _; omega)]; exact rf k⟩
  have HB0 : Hid (Below w.heap.size w W) := hb0
  have HSZ : Hid (W.heap.size = w.heap.size + 2) := hsz
  have hlW := hl.below hb0
  have hvW := hv.below hb0
  have HLS : Hid (∀ w', Below W.heap.size W w' → Strs w' a xs) := fun w' h => hlW.below h
  have HNU : Hid (∀ w', Below W.heap.size W w' → Nums w' a2 ws) := fun w' h => hvW.below h
  have HYO : Hid (Calls _ _ _ W _) := spec_yobj W a cap xs z a2 n vcap ws r hx hxn hlW hz hn hcap hvW hh (starts_step xs z ws)
  have HST : Hid (∀ w', Below W.heap.size W w' → Calls _ _ _ w' _) := fun w' h => spec_starts w' a cap xs z a2 n vcap ws hx hxn (hlW.below h) hz hn (hvW.below h) hh
  have HX : Hid (ws.length = n) := hx
  have HSL : Hid ((startsN xs z ws).length ≤ 1048576) := by show _ ≤ _; have := starts_len xs z ws; omega
  have HNO : Hid (∀ {e : Ending} {w' : World}, setB xs ws (startsN xs z ws) r i v = false → e = .returned (.tuple #[.agg #[.int .i64 0, .slice none 0 0], .bool false]) → Below w.heap.size w w' → SetAns xs z ws r i v w e w') := fun h he hb => set_no h he hb
  have HSB : Hid (setB xs ws (startsN xs z ws) r i v = (yobB (startsN xs z ws) r && (placeB (yobV xs ws (startsN xs z ws) r).length i && (!isR (kdH xs (ws.getD (r / 2).toNat 0)) i.toNat || namedB (startsN xs z ws) v)))) := rfl
  clear hW hl hv hb0 hx hh hz hsz r0 r1 rf hlW hvW
  have HVE : Hid (∀ (w3 V : World) (x0 x1 : Value), Below W.heap.size W w3 → V = w3.alloc (.cells #[x0, x1] 43) → V.cell? ⟨w3.heap.size, 0, none⟩ = some x0 ∧ V.cell? ⟨w3.heap.size, 1, none⟩ = some x1 ∧ Below W.heap.size W V) := fun w3 V x0 x1 h hV => by
    have hbV : Below w3.heap.size w3 V := by rw [hV]; exact (Below.refl _ _).alloc (Nat.le_refl _) _
    exact ⟨by rw [hV, World.cell?_alloc_new]; rfl, by rw [hV, World.cell?_alloc_new]; rfl, h.trans (hbV.mono h.size)⟩
  unfold AOut at HYO
  dsimp only at HYO
  go_enter Try.func36, Try.ntmps36
  by_cases hb : yobB (startsN xs z ws) r = true
  case neg =>
    have hbf : yobB (startsN xs z ws) r = false := by simpa using hb
    have HF : Hid (setB xs ws (startsN xs z ws) r i v = false) := by show setB _ _ _ _ _ _ = false; rw [HSB.out, hbf]; rfl
    rw [hbf] at HYO
    clear hb hbf HSB
    go_wp2_with (rw [← HW.out])
    refine HYO.out.mono ?_
    rintro e w3 ⟨a3, g3, c3, rfl, _, _, hb3⟩
    obtain ⟨V, hV⟩ : ∃ V, V = w3.alloc (.cells #[.int .i64 (yobT ws (startsN xs z ws) r), .slice a3 (yobV xs ws (startsN xs z ws) r).length c3] 43) := ⟨_, rfl⟩
    obtain ⟨vb, hvb⟩ : ∃ vb, vb = w3.heap.size := ⟨_, rfl⟩
    have HV : Hid (V = w3.alloc (.cells #[.int .i64 (yobT ws (startsN xs z ws) r), .slice a3 (yobV xs ws (startsN xs z ws) r).length c3] 43)) := hV
    have HVB : Hid (vb = w3.heap.size) := hvb
    have HVW : Hid (Below W.heap.size W V) := (HVE.out w3 V _ _ hb3 hV).2.2
    clear c0 c1 hb3 hV hvb
    obtain ⟨r0, r1, rf⟩ := HRC.out V HVW.out
    have z0 := rf 0
    have z1 := rf 1
    have HP2 : Hid (∀ x0 x1, _) := pair_set r0 r1
    have HBE : Hid (∀ x0 x1, Below w.heap.size w ((V.setCell ⟨w.heap.size + 1, 0, none⟩ x0).setCell ⟨w.heap.size + 1, 1, none⟩ x1)) := fun x0 x1 => ((HB0.out.trans (HVW.out.mono HB0.out.size)).setCell (p := ⟨w.heap.size + 1, 0, none⟩) (by show w.heap.size ≤ w.heap.size + 1; omega) _).setCell (p := ⟨w.heap.size + 1, 1, none⟩) (by show w.heap.size ≤ w.heap.size + 1; omega) _
    clear rf
    go_wp2_with (first | (rw [← HV.out, ← HVB.out]) | (rw [← HV.out]))
    refine bodyPost_ret (v := .tuple #[.agg #[.int .i64 0, .slice none 0 0], .bool false]) ?_ rfl (HNO.out HF.out rfl (HBE.out _ _))
    obtain ⟨q0, q1⟩ := HP2.out (.int .i64 0) (.slice none 0 0)
    simp [results, Try.results36, go_sem, q0, q1]
  case pos =>
  obtain ⟨aa, p, hpl, hae, hrn, hk2, hr1, hr2, hyT, hyV, hkd, hs1, hs23, hfit, hw4⟩ := yob_more (xs := xs) (z := z) (ws := ws) hb
  rw [hb, hyT] at HYO
  rw [hb, hkd] at HSB
  rw [hyV] at HSB HYO
  have hq0 : r.tdiv 2 = (aa : Int) := by rw [Int.tdiv_eq_ediv_of_nonneg (by omega), hae]
  obtain ⟨b9, o9, ha9, hx9⟩ := HNU.out W (Below.refl _ _) 0 (by omega)
  clear hx9
  subst ha9
  have hn4 : n ≤ 400 := by have := HX.out; omega
  have hfn : aa + 1 + xs[p].size ≤ n := by have := HX.out; omega
  have HSC : Hid (∀ w', Below W.heap.size W w' → ∃ b2 o2, a = some ⟨b2, o2, none⟩ ∧ w'.cell? ⟨b2, o2 + p, none⟩ = some (.string xs[p])) := fun w' h => HLS.out w' h p hpl
  have HCP : Hid (∀ w', Below W.heap.size W w' → Calls _ _ _ w' _) := fun w' h => spec_l8copy w' z (some ⟨b9, o9, none⟩) n vcap ws HX.out (by omega) hn (HNU.out w' h)
  have HYE : Hid (∀ {e : Ending} {w' : World} {A : Nat}, setB xs ws (startsN xs z ws) r i v = true ∧ A = (r / 2).toNat + 1 + i.toNat → AOut (fun s => .tuple #[.agg #[.int .i64 z, s], .bool true]) (ws.set A v) w e w' → SetAns xs z ws r i v w e w') := fun h he => set_yes h.2 h.1 he
  have hpi : (p : Int) < (xs.length : Int) := by omega
  have hp0 : (0 : Int) ≤ (p : Int) := by omega
  have HRN : Hid ((r / 2).toNat = aa) := hrn
  clear hae hrn hk2 hr1 hr2 hyT hyV hkd hfit hw4 hb
  generalize xs[p] = s at HYO HSB HSC hs1 hs23 hfn
  clear hpl
  have HIN : Hid (∀ w : World, Calls Try.prog 49 #[.int .i64 i, .int .i64 0, .int .i64 ((s.size : Int) - 1)] w fun e w' => e = .returned (.bool (placeB s.size i)) ∧ w = w') := fun w => by
    have h1 := specIn_any w i 0 ((s.size : Int) - 1)
    have h2 : (decide (0 ≤ i) && decide (i ≤ (s.size : Int) - 1)) = placeB s.size i := by
      unfold placeB
      congr 1
      exact decide_eq_decide.2 (by omega)
    rw [h2] at h1
    exact h1
  have hws : IntKind.i64.wrap ((s.size : Int) - 1) = (s.size : Int) - 1 := by rw [IntKind.wrap_i64]; omega
  go_wp2_with (rw [← HW.out])
  refine HYO.out.mono ?_
  rintro e w3 ⟨a3, g3, c3, rfl, _, _, hb3⟩
  obtain ⟨V, hV⟩ : ∃ V, V = w3.alloc (.cells #[.int .i64 (p : Int), .slice a3 s.size c3] 43) := ⟨_, rfl⟩
  obtain ⟨vb, hvb⟩ : ∃ vb, vb = w3.heap.size := ⟨_, rfl⟩
  have HV : Hid (V = w3.alloc (.cells #[.int .i64 (p : Int), .slice a3 s.size c3] 43)) := hV
  have HVB : Hid (vb = w3.heap.size) := hvb
  obtain ⟨y0, y1, hWV⟩ := HVE.out w3 V _ _ hb3 hV
  rw [← hvb] at y0 y1
  have HVW : Hid (Below W.heap.size W V) := hWV
  clear c0 c1 hb3 hV hvb hWV HYO
  cases hpl : placeB s.size i with
  | false =>
    have HF : Hid (setB xs ws (startsN xs z ws) r i v = false) := by show setB _ _ _ _ _ _ = false; rw [HSB.out, hpl]; rfl
    rw [hpl] at HIN
    clear hpl HSB
    go_wp2_with (first | (rw [← HV.out, ← HVB.out]) | (rw [← HV.out]))
    refine (HIN.out V).mono ?_
    rintro e w4 ⟨rfl, rfl⟩
    obtain ⟨r0, r1, rf⟩ := HRC.out V HVW.out
    have z0 := rf 0
    have z1 := rf 1
    have HP2 : Hid (∀ x0 x1, _) := pair_set r0 r1
    have HBE : Hid (∀ x0 x1, Below w.heap.size w ((V.setCell ⟨w.heap.size + 1, 0, none⟩ x0).setCell ⟨w.heap.size + 1, 1, none⟩ x1)) := fun x0 x1 => ((HB0.out.trans (HVW.out.mono HB0.out.size)).setCell (p := ⟨w.heap.size + 1, 0, none⟩) (by show w.heap.size ≤ w.heap.size + 1; omega) _).setCell (p := ⟨w.heap.size + 1, 1, none⟩) (by show w.heap.size ≤ w.heap.size + 1; omega) _
    clear rf
    go_wp2
    refine bodyPost_ret (v := .tuple #[.agg #[.int .i64 0, .slice none 0 0], .bool false]) ?_ rfl (HNO.out HF.out rfl (HBE.out _ _))
    obtain ⟨q0, q1⟩ := HP2.out (.int .i64 0) (.slice none 0 0)
    simp [results, Try.results36, go_sem, q0, q1]
  | true =>
  obtain ⟨j, rfl, hjs⟩ := placeB_nat hpl
  rw [hpl] at HIN HSB
  rw [Int.toNat_natCast] at HSB
  obtain ⟨b2, o2, rfl, s0⟩ := HSC.out V HVW.out
  have hIR := isR_at s j hjs
  have hjsi : (j : Int) < (s.size : Int) := by omega
  have hj0 : (0 : Int) ≤ (j : Int) := by omega
  obtain ⟨A, hA⟩ : ∃ A, A = aa + 1 + j := ⟨_, rfl⟩
  have haa4 : aa ≤ 400 := by omega
  have hj23 : j ≤ 23 := by omega
  have htn : ((aa : Int) + 1 + (j : Int)).toNat = A := by omega
  have hti : (aa : Int) + 1 + (j : Int) < (n : Int) := by omega
  have ht0 : (0 : Int) ≤ (aa : Int) + 1 + (j : Int) := by omega
  have hAi : (A : Int) < (n : Int) := by omega
  have hA0 : (0 : Int) ≤ (A : Int) := by omega
  have HAN2 : Hid (A < n) := by show A < n; omega
  have HAE : Hid (A = (r / 2).toNat + 1 + ((j : Int)).toNat) := by show A = _; rw [HRN.out, Int.toNat_natCast]; exact hA
  clear hpl hA hfn hs1
  cases hir : isR s j with
  | false =>
    rw [hir] at hIR
    have HOKT : Hid (setB xs ws (startsN xs z ws) r (j : Int) v = true ∧ A = (r / 2).toNat + 1 + ((j : Int)).toNat) := ⟨by rw [HSB.out, hir]; rfl, HAE.out⟩
    clear hir HSB HAE
    go_wp2_with (first | (rw [← HV.out, ← HVB.out]) | (rw [← HV.out]))
    refine (HIN.out V).mono ?_
    rintro e w4 ⟨rfl, rfl⟩
    obtain ⟨k0, k1⟩ := HK.out V HVW.out
    go_wp2_with fail
    refine (HCP.out V HVW.out).mono ?_
    rintro e w5 ⟨g5, c5, rfl, hg5, hi5, hb5⟩
    have HW5 : Hid (Below W.heap.size W w5) := HVW.out.trans (hb5.mono HVW.out.size)
    have HG5 : Hid (w.heap.size + 2 ≤ g5 ∧ g5 < w5.heap.size) := by show _ ∧ _; have := HSZ.out; have := HVW.out.size; exact ⟨by omega, hi5.lt (by have := HX.out; have := HAN2.out; omega)⟩
    obtain ⟨Q, hQ⟩ : ∃ Q, Q = w5.alloc (.cells #[.int .i64 z, .slice (some ⟨g5, 0, none⟩) n c5] 30) := ⟨_, rfl⟩
    obtain ⟨qb, hqb⟩ : ∃ qb, qb = w5.heap.size := ⟨_, rfl⟩
    have HQ : Hid (Q = w5.alloc (.cells #[.int .i64 z, .slice (some ⟨g5, 0, none⟩) n c5] 30)) := hQ
    have HQB : Hid (qb = w5.heap.size) := hqb
    have hbQ : Below w5.heap.size w5 Q := by rw [hQ]; exact (Below.refl _ _).alloc (Nat.le_refl _) _
    have HIQ : Hid (Ints Q (some ⟨g5, 0, none⟩) g5 ws) := hi5.below hbQ
    have HWQ : Hid (Below W.heap.size W Q) := HW5.out.trans (hbQ.mono HW5.out.size)
    have u0 : Q.cell? ⟨qb, 0, none⟩ = some (.int .i64 z) := by rw [hQ, hqb, World.cell?_alloc_new]; rfl
    have u1 : Q.cell? ⟨qb, 1, none⟩ = some (.slice (some ⟨g5, 0, none⟩) n c5) := by rw [hQ, hqb, World.cell?_alloc_new]; rfl
    have hqg : g5 ≠ qb := by have := HG5.out.2; omega
    obtain ⟨_, d5, f5⟩ := HIQ.out A (by have := HX.out; have := HAN2.out; omega)
    obtain ⟨X, hX⟩ : ∃ X, X = Q.setCell ⟨g5, A, none⟩ (.int .i64 v) := ⟨_, rfl⟩
    have HX6 : Hid (X = Q.setCell ⟨g5, A, none⟩ (.int .i64 v)) := hX
    have x0 : X.cell? ⟨qb, 0, none⟩ = some (.int .i64 z) := by rw [hX, World.cell?_setCell_other _ _ _ _ (cell_ne2 _ _ _ _ hqg)]; exact u0
    have x1 : X.cell? ⟨qb, 1, none⟩ = some (.slice (some ⟨g5, 0, none⟩) n c5) := by rw [hX, World.cell?_setCell_other _ _ _ _ (cell_ne2 _ _ _ _ hqg)]; exact u1
    have HWX : Hid (Below W.heap.size W X) := by show Below _ _ _; rw [hX]; exact HWQ.out.setCell (p := ⟨g5, A, none⟩) (by show W.heap.size ≤ g5; have := HG5.out; have := HSZ.out; omega) _
    have HIX : Hid (Ints X (some ⟨g5, 0, none⟩) g5 (ws.set A v)) := by show Ints _ _ _ _; rw [hX]; exact Ints.put HIQ.out A v
    obtain ⟨r0, r1, rf⟩ := HRC.out X HWX.out
    have z0 := rf 0
    have z1 := rf 1
    have HP2 : Hid (∀ x0 x1, _) := pair_set r0 r1
    have HBE : Hid (∀ x0 x1, Below w.heap.size w ((X.setCell ⟨w.heap.size + 1, 0, none⟩ x0).setCell ⟨w.heap.size + 1, 1, none⟩ x1)) := fun x0 x1 => ((HB0.out.trans (HWX.out.mono HB0.out.size)).setCell (p := ⟨w.heap.size + 1, 0, none⟩) (by show w.heap.size ≤ w.heap.size + 1; omega) _).setCell (p := ⟨w.heap.size + 1, 1, none⟩) (by show w.heap.size ≤ w.heap.size + 1; omega) _
    have HIE : Hid (∀ x0 x1, Ints ((X.setCell ⟨w.heap.size + 1, 0, none⟩ x0).setCell ⟨w.heap.size + 1, 1, none⟩ x1) (some ⟨g5, 0, none⟩) g5 (ws.set A v)) := fun x0 x1 => (HIX.out.grown (grown_set _ _ _ _) (by have := HG5.out; omega)).grown (grown_set _ _ _ _) (by have := HG5.out; omega)
    clear rf hX hQ hqb hbQ hqg hb5 hi5 hg5 k0 k1 s0 y0 y1
    go_wp2_with (first | (rw [← HX6.out]) | (rw [← HQ.out, ← HQB.out]) | (rw [← HQ.out]))
    refine bodyPost_ret (v := .tuple #[.agg #[.int .i64 z, .slice (some ⟨g5, 0, none⟩) n c5], .bool true]) ?_ rfl (HYE.out HOKT.out ⟨_, g5, c5, by rw [List.length_set, HX.out], by have := HG5.out; omega, HIE.out _ _, HBE.out _ _⟩)
    obtain ⟨q0, q1⟩ := HP2.out (.int .i64 z) (.slice (some ⟨g5, 0, none⟩) n c5)
    simp [results, Try.results36, go_sem, q0, q1]
  | true =>
    rw [hir] at hIR
    obtain ⟨k0, k1⟩ := HK.out V HVW.out
    rw [hir] at HSB
    have HSR : Hid (∀ (w' : World) (sa : Option Addr) (sc : Nat), Nums w' sa (numsOf (startsN xs z ws)) → Calls Try.prog 44 #[.slice sa (numsOf (startsN xs z ws)).length sc, .int .i64 v] w' fun e w'' => e = .returned (.bool (namedB (startsN xs z ws) v)) ∧ w' = w'') := fun w' sa sc h => by
      have h1 := spec_ref w' sa (startsN xs z ws).length sc (startsN xs z ws) v rfl HSL.out h
      rw [numsOf_len]
      exact h1
    cases hnm : namedB (startsN xs z ws) v with
    | false =>
      have HF : Hid (setB xs ws (startsN xs z ws) r (j : Int) v = false) := by show setB _ _ _ _ _ _ = false; rw [HSB.out, hnm]; rfl
      rw [hnm] at HSR
      clear hir HSB HAE hnm
      go_wp2_with (first | (rw [← HV.out, ← HVB.out]) | (rw [← HV.out]))
      refine (HIN.out V).mono ?_
      rintro e w4 ⟨rfl, rfl⟩
      go_wp2_with fail
      refine (HST.out V HVW.out).mono ?_
      rintro e w4 ⟨sa, sg, sc, rfl, _, hin, hb4⟩
      have HW4 : Hid (Below W.heap.size W w4) := HVW.out.trans (hb4.mono HVW.out.size)
      have HN4 : Hid (Nums w4 sa (numsOf (startsN xs z ws))) := hin.nums
      clear hb4 hin s0 y0 y1 k0 k1
      go_wp2_with fail
      refine (HSR.out w4 _ _ HN4.out).mono ?_
      rintro e w5 ⟨rfl, rfl⟩
      obtain ⟨r0, r1, rf⟩ := HRC.out w4 HW4.out
      have z0 := rf 0
      have z1 := rf 1
      have HP2 : Hid (∀ x0 x1, _) := pair_set r0 r1
      have HBE : Hid (∀ x0 x1, Below w.heap.size w ((w4.setCell ⟨w.heap.size + 1, 0, none⟩ x0).setCell ⟨w.heap.size + 1, 1, none⟩ x1)) := fun x0 x1 => ((HB0.out.trans (HW4.out.mono HB0.out.size)).setCell (p := ⟨w.heap.size + 1, 0, none⟩) (by show w.heap.size ≤ w.heap.size + 1; omega) _).setCell (p := ⟨w.heap.size + 1, 1, none⟩) (by show w.heap.size ≤ w.heap.size + 1; omega) _
      clear rf
      go_wp2
      refine bodyPost_ret (v := .tuple #[.agg #[.int .i64 0, .slice none 0 0], .bool false]) ?_ rfl (HNO.out HF.out rfl (HBE.out _ _))
      obtain ⟨q0, q1⟩ := HP2.out (.int .i64 0) (.slice none 0 0)
      simp [results, Try.results36, go_sem, q0, q1]
    | true =>
      have HOKT : Hid (setB xs ws (startsN xs z ws) r (j : Int) v = true ∧ A = (r / 2).toNat + 1 + ((j : Int)).toNat) := ⟨by rw [HSB.out, hnm]; rfl, HAE.out⟩
      rw [hnm] at HSR
      clear hir HSB HAE hnm
      go_wp2_with (first | (rw [← HV.out, ← HVB.out]) | (rw [← HV.out]))
      refine (HIN.out V).mono ?_
      rintro e w4 ⟨rfl, rfl⟩
      go_wp2_with fail
      refine (HST.out V HVW.out).mono ?_
      rintro e w4 ⟨sa, sg, sc, rfl, _, hin, hb4⟩
      have HW4 : Hid (Below W.heap.size W w4) := HVW.out.trans (hb4.mono HVW.out.size)
      have HN4 : Hid (Nums w4 sa (numsOf (startsN xs z ws))) := hin.nums
      clear hb4 hin s0 y0 y1 k0 k1
      go_wp2_with fail
      refine (HSR.out w4 _ _ HN4.out).mono ?_
      rintro e w5 ⟨rfl, rfl⟩
      obtain ⟨k0, k1⟩ := HK.out w4 HW4.out
      go_wp2_with fail
      refine (HCP.out w4 HW4.out).mono ?_
      rintro e w5 ⟨g5, c5, rfl, hg5, hi5, hb5⟩
      have HW5 : Hid (Below W.heap.size W w5) := HW4.out.trans (hb5.mono HW4.out.size)
      have HG5 : Hid (w.heap.size + 2 ≤ g5 ∧ g5 < w5.heap.size) := by show _ ∧ _; have := HSZ.out; have := HW4.out.size; exact ⟨by omega, hi5.lt (by have := HX.out; have := HAN2.out; omega)⟩
      obtain ⟨Q, hQ⟩ : ∃ Q, Q = w5.alloc (.cells #[.int .i64 z, .slice (some ⟨g5, 0, none⟩) n c5] 30) := ⟨_, rfl⟩
      obtain ⟨qb, hqb⟩ : ∃ qb, qb = w5.heap.size := ⟨_, rfl⟩
      have HQ : Hid (Q = w5.alloc (.cells #[.int .i64 z, .slice (some ⟨g5, 0, none⟩) n c5] 30)) := hQ
      have HQB : Hid (qb = w5.heap.size) := hqb
      have hbQ : Below w5.heap.size w5 Q := by rw [hQ]; exact (Below.refl _ _).alloc (Nat.le_refl _) _
      have HIQ : Hid (Ints Q (some ⟨g5, 0, none⟩) g5 ws) := hi5.below hbQ
      have HWQ : Hid (Below W.heap.size W Q) := HW5.out.trans (hbQ.mono HW5.out.size)
      have u0 : Q.cell? ⟨qb, 0, none⟩ = some (.int .i64 z) := by rw [hQ, hqb, World.cell?_alloc_new]; rfl
      have u1 : Q.cell? ⟨qb, 1, none⟩ = some (.slice (some ⟨g5, 0, none⟩) n c5) := by rw [hQ, hqb, World.cell?_alloc_new]; rfl
      have hqg : g5 ≠ qb := by have := HG5.out.2; omega
      obtain ⟨_, d5, f5⟩ := HIQ.out A (by have := HX.out; have := HAN2.out; omega)
      obtain ⟨X, hX⟩ : ∃ X, X = Q.setCell ⟨g5, A, none⟩ (.int .i64 v) := ⟨_, rfl⟩
      have HX6 : Hid (X = Q.setCell ⟨g5, A, none⟩ (.int .i64 v)) := hX
      have x0 : X.cell? ⟨qb, 0, none⟩ = some (.int .i64 z) := by rw [hX, World.cell?_setCell_other _ _ _ _ (cell_ne2 _ _ _ _ hqg)]; exact u0
      have x1 : X.cell? ⟨qb, 1, none⟩ = some (.slice (some ⟨g5, 0, none⟩) n c5) := by rw [hX, World.cell?_setCell_other _ _ _ _ (cell_ne2 _ _ _ _ hqg)]; exact u1
      have HWX : Hid (Below W.heap.size W X) := by show Below _ _ _; rw [hX]; exact HWQ.out.setCell (p := ⟨g5, A, none⟩) (by show W.heap.size ≤ g5; have := HG5.out; have := HSZ.out; omega) _
      have HIX : Hid (Ints X (some ⟨g5, 0, none⟩) g5 (ws.set A v)) := by show Ints _ _ _ _; rw [hX]; exact Ints.put HIQ.out A v
      obtain ⟨r0, r1, rf⟩ := HRC.out X HWX.out
      have z0 := rf 0
      have z1 := rf 1
      have HP2 : Hid (∀ x0 x1, _) := pair_set r0 r1
      have HBE : Hid (∀ x0 x1, Below w.heap.size w ((X.setCell ⟨w.heap.size + 1, 0, none⟩ x0).setCell ⟨w.heap.size + 1, 1, none⟩ x1)) := fun x0 x1 => ((HB0.out.trans (HWX.out.mono HB0.out.size)).setCell (p := ⟨w.heap.size + 1, 0, none⟩) (by show w.heap.size ≤ w.heap.size + 1; omega) _).setCell (p := ⟨w.heap.size + 1, 1, none⟩) (by show w.heap.size ≤ w.heap.size + 1; omega) _
      have HIE : Hid (∀ x0 x1, Ints ((X.setCell ⟨w.heap.size + 1, 0, none⟩ x0).setCell ⟨w.heap.size + 1, 1, none⟩ x1) (some ⟨g5, 0, none⟩) g5 (ws.set A v)) := fun x0 x1 => (HIX.out.grown (grown_set _ _ _ _) (by have := HG5.out; omega)).grown (grown_set _ _ _ _) (by have := HG5.out; omega)
      clear rf hX hQ hqb hbQ hqg hb5 hi5 hg5 k0 k1 
      go_wp2_with (first | (rw [← HX6.out]) | (rw [← HQ.out, ← HQB.out]) | (rw [← HQ.out]))
      refine bodyPost_ret (v := .tuple #[.agg #[.int .i64 z, .slice (some ⟨g5, 0, none⟩) n c5], .bool true]) ?_ rfl (HYE.out HOKT.out ⟨_, g5, c5, by rw [List.length_set, HX.out], by have := HG5.out; omega, HIE.out _ _, HBE.out _ _⟩)
      obtain ⟨q0, q1⟩ := HP2.out (.int .i64 z) (.slice (some ⟨g5, 0, none⟩) n c5)
      simp [results, Try.results36, go_sem, q0, q1]
end Go.Proofs.Ytmnmkbhfilfifaa.nu
