/-
  The object of a reference, by the specification.
-/
import Derived.Test.YtngpmohmnpbcnaaYAges
import Derived.Deep.AppendLies
namespace Go.Proofs.Ytngpmohmnpbcnaa.nu
open Go.RowKit
open kinds ints ref obj

theorem parseF_good (xs : List ByteArray) (ws : List Int) : ∀ (f a : Nat) (L : List Nat), parseF xs ws f a = some L → ∀ x ∈ L, stepN xs ws x ≠ 0
  | 0, _, L, h => by
    simp only [parseF, Option.some.injEq] at h
    subst h; intro x hx; cases hx
  | f + 1, a, L, h => by
    rw [parseF] at h
    split at h
    · split at h
      · cases h
      · rename_i hs
        obtain ⟨M, hM, rfl⟩ := Option.map_eq_some_iff.1 h
        intro x hx
        rcases List.mem_cons.1 hx with q | q
        · rw [q]; exact hs
        · exact parseF_good xs ws f _ M hM x q
    · cases h; intro x hx; cases hx
theorem starts_step (xs : List ByteArray) (z : Int) (ws : List Int) : ∀ x ∈ startsN xs z ws, stepN xs ws x ≠ 0 := by
  unfold startsN
  split
  · cases hp : parsed xs ws with
    | none => intro x hx; cases hx
    | some L => exact parseF_good xs ws _ _ L hp
  · intro x hx; cases hx
theorem yobV_len (xs : List ByteArray) (ws : List Int) (L : List Nat) (r : Int) : (yobV xs ws L r).length ≤ ws.length := by
  unfold yobV
  split
  · unfold valsA
    rw [List.length_take, List.length_drop]; omega
  · simp
theorem box3 (w : World) (z : Int) (a2 : Option Addr) (n vcap : Nat) (W : World) (hW : W = (w.alloc (.cells #[.int .i64 z, .slice a2 n vcap] 31)).alloc (.cells #[.int .i64 0, .slice none 0 0] 52)) :
    Below w.heap.size w W ∧ W.heap.size = w.heap.size + 2 ∧ W.cell? ⟨w.heap.size, 0, none⟩ = some (.int .i64 z) ∧ W.cell? ⟨w.heap.size, 1, none⟩ = some (.slice a2 n vcap) ∧ W.cell? ⟨w.heap.size + 1, 0, none⟩ = some (.int .i64 0) ∧ W.cell? ⟨w.heap.size + 1, 1, none⟩ = some (.slice none 0 0) ∧ ∀ k, W.frozen? ⟨w.heap.size + 1, k, none⟩ = false := by
  subst hW
  refine ⟨((Below.refl _ _).alloc (Nat.le_refl _) _).alloc (by simp) _, by simp, ?_, ?_, ?_, ?_, fun k => by rw [World.frozen?_alloc_at _ _ _ _ (by simp)]⟩
  · rw [World.cell?_alloc_past _ _ _ (by simp), World.cell?_alloc_at _ _ _ _ (by simp)]; rfl
  · rw [World.cell?_alloc_past _ _ _ (by simp), World.cell?_alloc_at _ _ _ _ (by simp)]; rfl
  · rw [World.cell?_alloc_at _ _ _ _ (by simp)]; rfl
  · rw [World.cell?_alloc_at _ _ _ _ (by simp)]; rfl
set_option maxHeartbeats 2000000 in
set_option maxRecDepth 20000 in
theorem spec_l8obj (w : World) (a : Option Addr) (cap : Nat) (xs : List ByteArray) (z : Int) (a2 : Option Addr) (n vcap : Nat) (ws : List Int) (aa : Nat) (hx : ws.length = n) (hn4 : n ≤ 400) (hcap : n ≤ vcap) (hxn : xs.length ≤ 1048576) (hl : Strs w a xs) (hv : Nums w a2 ws) (h23 : ∀ i (hi : i < xs.length), 1 ≤ xs[i].size ∧ xs[i].size ≤ 23) (hgd : stepN xs ws aa ≠ 0) :
    Calls Try.prog 65 #[.slice a xs.length cap, .agg #[.int .i64 z, .slice a2 n vcap], .int .i64 (aa : Int)] w fun e w' => ∃ g c, e = .returned (.agg #[.int .i64 (ws.getD aa 0 / 4), .slice (some ⟨g, 0, none⟩) (valsA xs ws aa).length c]) ∧ w.heap.size ≤ g ∧ Ints w' (some ⟨g, 0, none⟩) g (valsA xs ws aa) ∧ Below w.heap.size w w' := by
  obtain ⟨i0, hi, hzz⟩ := Option.map_eq_some_iff.1 infoInt64
  simp only [Prod.mk.injEq] at hzz
  obtain ⟨hz0, hz1, hz2⟩ := hzz
  obtain ⟨hh0, hpb, hfit, _⟩ := stepN_le hgd
  obtain ⟨p, hpe, hpl⟩ := placeB_nat hpb
  have hkd := kdH_at hpl hpe
  have hvl := valsA_len hgd
  rw [hkd] at hvl hfit
  have hs1 := h23 p hpl
  obtain ⟨W, hW⟩ : ∃ W, W = (w.alloc (.cells #[.int .i64 z, .slice a2 n vcap] 31)).alloc (.cells #[.int .i64 0, .slice none 0 0] 52) := ⟨_, rfl⟩
  have HW : Hid (W = (w.alloc (.cells #[.int .i64 z, .slice a2 n vcap] 31)).alloc (.cells #[.int .i64 0, .slice none 0 0] 52)) := hW
  obtain ⟨hb0, hsz, c0, c1, r0, r1, rf⟩ := box3 w z a2 n vcap W hW
  obtain ⟨b, off, rfl, d0⟩ := (hv.below hb0) aa (by omega)
  rw [getD_of ws aa (by omega)] at d0
  obtain ⟨b2, o2, rfl, s00⟩ := hl p hpl
  have hb2 : b2 < w.heap.size := World.block_lt_of_cell? _ _ s00
  have s0 : W.cell? ⟨b2, o2 + p, none⟩ = some (.string xs[p]) := by rw [hb0.cell (p := ⟨b2, o2 + p, none⟩) hb2]; exact s00
  have HCS : Hid (∀ w', Below W.heap.size W w' → w'.cell? ⟨w.heap.size, 1, none⟩ = some (.slice (some ⟨b, off, none⟩) n vcap) ∧ w'.cell? ⟨b2, o2 + p, none⟩ = some (.string xs[p])) := fun w' h =>
    ⟨by rw [h.cell (p := ⟨w.heap.size, 1, none⟩) (by show w.heap.size < _; omega)]; exact c1, by rw [h.cell (p := ⟨b2, o2 + p, none⟩) (World.block_lt_of_cell? _ _ s0)]; exact s0⟩
  have HC2 : Hid (∀ w' x0 x1, Below W.heap.size W w' → ((w'.setCell ⟨w.heap.size + 1, 0, none⟩ x0).setCell ⟨w.heap.size + 1, 1, none⟩ x1).cell? ⟨w.heap.size, 1, none⟩ = some (.slice (some ⟨b, off, none⟩) n vcap) ∧ ((w'.setCell ⟨w.heap.size + 1, 0, none⟩ x0).setCell ⟨w.heap.size + 1, 1, none⟩ x1).cell? ⟨b2, o2 + p, none⟩ = some (.string xs[p])) := fun w' x0 x1 h =>
    ⟨by rw [World.cell?_setCell_other _ _ _ _ (cell_ne2 _ _ _ _ (by omega)), World.cell?_setCell_other _ _ _ _ (cell_ne2 _ _ _ _ (by omega))]; exact (HCS.out w' h).1, by rw [World.cell?_setCell_other _ _ _ _ (cell_ne2 _ _ _ _ (by omega)), World.cell?_setCell_other _ _ _ _ (cell_ne2 _ _ _ _ (by omega))]; exact (HCS.out w' h).2⟩
  have HRS : Hid (∀ w', Below W.heap.size W w' → w'.cell? ⟨w.heap.size + 1, 0, none⟩ = some (.int .i64 0) ∧ w'.cell? ⟨w.heap.size + 1, 1, none⟩ = some (.slice none 0 0) ∧ ∀ k, w'.frozen? ⟨w.heap.size + 1, k, none⟩ = false) := fun w' h =>
    ⟨by rw [h.cell (p := ⟨w.heap.size + 1, 0, none⟩) (by show w.heap.size + 1 < _; omega)]; exact r0, by rw [h.cell (p := ⟨w.heap.size + 1, 1, none⟩) (by show w.heap.size + 1 < _; omega)]; exact r1, fun k => by rw [h.frozen (p := ⟨w.heap.size + 1, k, none⟩) (by show w.heap.size + 1 < _; omega)]; exact rf k⟩
  have HB0 : Hid (Below w.heap.size w W) := hb0
  have HSZ : Hid (W.heap.size = w.heap.size + 2) := hsz
  obtain ⟨A1, hA1⟩ : ∃ A1, A1 = aa + 1 := ⟨_, rfl⟩
  obtain ⟨D, hD⟩ : ∃ D, D = aa + 1 + xs[p].size := ⟨_, rfl⟩
  have hw1 : IntKind.i64.wrap ((aa : Int) + 1) = (A1 : Int) := by rw [IntKind.wrap_i64]; omega
  have hw2 : IntKind.i64.wrap ((A1 : Int) + (xs[p].size : Int)) = (D : Int) := by rw [IntKind.wrap_i64]; omega
  have hsl : ∀ W, (Instr.slice 23 (.slice (some ⟨b, off, none⟩) n vcap) (some (.int .i64 (A1 : Int))) (some (.int .i64 (D : Int))) none).run Try.prog W = .ok (.slice (some ⟨b, off + A1, none⟩) xs[p].size (vcap - A1)) W := fun W => by
    have h1 := Go.Lib.run_slice_window (P := Try.prog) W 23 2 Try.underlying23 oneInt b off n vcap A1 D (by omega) (by omega)
    rw [show D - A1 = xs[p].size by omega] at h1
    exact h1
  have hq0 : (ws.getD aa 0).tdiv 4 = (p : Int) := by rw [Int.tdiv_eq_ediv_of_nonneg hh0, hpe]
  have hq1 : IntKind.i64.wrap (p : Int) = (p : Int) := by rw [IntKind.wrap_i64]; omega
  have HNU : Hid (Nums W (some ⟨b, off + A1, none⟩) (valsA xs ws aa)) := by
    have h1 := Nums.part (hv.below hb0) A1 xs[p].size
    have h2 : valsA xs ws aa = (ws.drop A1).take xs[p].size := by unfold valsA; rw [hkd, hA1]
    show Nums W _ _
    rw [h2]; exact h1
  have hpi : (p : Int) < (xs.length : Int) := by omega
  have hp0 : (0 : Int) ≤ (p : Int) := by omega
  have hai : (aa : Int) < (n : Int) := by omega
  have ha0 : (0 : Int) ≤ (aa : Int) := by omega
  rw [hpe]
  have HVN : Hid ((valsA xs ws aa).length = xs[p].size) := hvl
  have hs0 : 0 < xs[p].size := by omega
  have hs23 : xs[p].size ≤ 23 := hs1.2
  generalize valsA xs ws aa = va at HNU HVN ⊢
  generalize ws.getD aa 0 = hd at d0 hq0
  clear s00 hb2
  generalize xs[p] = s at HCS HC2 hw2 hsl HVN hs0 hs23 s0
  have HBX : Hid (Below W.heap.size W (W.alloc (.cells #[] 2)).drew) := ((Below.refl _ _).alloc (Nat.le_refl _) _).drew
  have HBd : Hid (Below W.heap.size W W.drew) := (Below.refl _ _).drew
  have HOX : Hid ((W.alloc (.cells #[] 2)).drew.ownsRow W.heap.size 2 1 (.slice (some ⟨W.heap.size, 0, none⟩) 0 0) 0 []) :=
    ⟨rfl, .inr ⟨W.heap.size, 0, #[], rfl, Nat.le_refl _, heap_alloc_new W _, Nat.le_refl _, Nat.zero_le _, rfl, rfl⟩⟩
  have HNC : Hid (∀ j u, (va.map (Value.int .i64))[j]? = some u → (W.alloc (.cells #[] 2)).drew.cell? ((⟨b, off + A1, none⟩ : Addr).add j) = some u) := fun j u hj => by
    rw [List.getElem?_map] at hj
    obtain ⟨y, hy, rfl⟩ := Option.map_eq_some_iff.1 hj
    obtain ⟨hj', rfl⟩ := List.getElem?_eq_some_iff.1 hy
    obtain ⟨b', off', e, hc⟩ := (HNU.out.below HBX.out) j hj'
    simp only [Option.some.injEq, Addr.mk.injEq, and_true] at e
    obtain ⟨rfl, e2⟩ := e
    have hadd : (⟨b, off + A1, none⟩ : Addr).add j = ⟨b, off + A1 + j, none⟩ := by unfold Addr.add; split <;> simp_all
    rw [hadd, e2]
    exact hc
  have HLN : Hid ((va.map (Value.int .i64)).length = s.size * 1) := by show (va.map (Value.int .i64)).length = _; rw [List.length_map, HVN.out]; omega
  have H1C : Hid (∀ u ∈ va.map (Value.int .i64), u.oneCell' = true) := fun u hu => by
    obtain ⟨y, _, rfl⟩ := List.mem_map.1 hu
    rfl
  clear hh0 hpb hfit hpe hpl hkd hvl hs1 h23 hgd hW hb0 hsz c0 r0 r1 rf hl hv hA1 hD hx HNU hn4
  have HS1 : Hid (s.size ≤ 23) := hs23
  obtain ⟨c1, s1⟩ := HCS.out W (Below.refl _ _)
  clear s0 hs23
  go_enter Try.func65, Try.ntmps65
  go_wp2_with (rw [← HW.out])
  go_region_held3 (fun w' => w'.cell? ⟨w.heap.size, 1, none⟩ = some (.slice (some ⟨b, off, none⟩) n vcap) ∧ w'.cell? ⟨b2, o2 + p, none⟩ = some (.string s))
      (first | with_reducible exact HCS.out _ HBd.out | with_reducible exact HCS.out _ HBX.out | with_reducible exact HCS.out _ h6 | with_reducible exact HC2.out _ _ _ h6)
      ((refine step_append_lies _ (by rfl) _ _ _ (by rfl) W.heap.size 2 i0 (.int .i64 0) 1 8 Try.underlying23 hi hz0 hz1 hz2 rfl (by decide) (.slice (some ⟨W.heap.size, 0, none⟩) 0 0) 0 [] (by rfl) HOX.out ⟨b, off + A1, none⟩ s.size (vcap - A1) (va.map (Value.int .i64)) (by rfl) HLN.out HNC.out H1C.out hs0 (by have := HS1.out; unfold maxLen; omega) (by have := HS1.out; omega) HBX.out.size _ rfl ?_; intro g cp w6 hown6 hgrow6 hat6 hlt6; have h6 : Below W.heap.size W w6 := own_step HOX.out HBX.out HBX.out.size hgrow6; obtain ⟨t0, t1, tf⟩ := HRS.out w6 h6; have y0 := tf 0; have y1 := tf 1))
  all_goals
    have hraw : w6.ownsRow W.heap.size 2 1 (.slice (some ⟨g, 0, none⟩) s.size cp) va.length (va.map (Value.int .i64)) := by
      rw [HVN.out]
      simpa using hown6
    obtain ⟨a9, g9, c9, e9, hg9, hi9⟩ := ints_of_row hraw
    simp only [Value.slice.injEq] at e9
    obtain ⟨rfl, _, rfl⟩ := e9
    have hgg : g = g9 := by
      have h0 := (hi9 0 (by rw [HVN.out]; exact hs0)).1
      simpa using h0
    subst hgg
    have HI6 : Hid (Ints w6 (some ⟨g, 0, none⟩) g va) := hi9
    have HG6 : Hid (w.heap.size + 2 ≤ g) := by show w.heap.size + 2 ≤ g; have := HSZ.out; omega
    have HB6 : Hid (Below w.heap.size w w6) := HB0.out.trans (h6.mono HB0.out.size)
    have HP6 : Hid (∀ x0 x1, _) := pair_set t0 t1
    clear hown6 hraw hgrow6 hat6 hlt6 h6 hi9 hg9 c1 s1 d0
    go_wp2
    refine bodyPost_ret (v := .agg #[.int .i64 (p : Int), .slice (some ⟨g, 0, none⟩) s.size cp]) ?_ rfl ⟨g, cp, by rw [HVN.out], by have := HG6.out; omega, (HI6.out.grown (grown_set _ _ _ _) (by have := HG6.out; omega)).grown (grown_set _ _ _ _) (by have := HG6.out; omega), (HB6.out.setCell (p := ⟨w.heap.size + 1, 0, none⟩) (by show w.heap.size ≤ w.heap.size + 1; omega) _).setCell (p := ⟨w.heap.size + 1, 1, none⟩) (by show w.heap.size ≤ w.heap.size + 1; omega) _⟩
    obtain ⟨q0, q1⟩ := HP6.out (.int .i64 (p : Int)) (.slice (some ⟨g, 0, none⟩) s.size cp)
    simp [results, Try.results65, go_sem, q0, q1]
theorem yob_facts {xs : List ByteArray} {z : Int} {ws : List Int} {r : Int} (h : yobB (startsN xs z ws) r = true) : ∃ aa : Nat, r / 2 = (aa : Int) ∧ aa ∈ startsN xs z ws ∧ refKind r = 2 ∧ 1 ≤ r ∧ r ≤ 799 := by
  unfold yobB at h
  rw [Bool.and_eq_true] at h
  have hk : refKind r = 2 := by simpa using h.1
  have h1 : 1 ≤ r ∧ r ≤ 799 := by
    unfold refKind at hk
    split at hk
    · omega
    · split at hk
      · omega
      · split at hk
        · omega
        · omega
  have h2 := h.2
  unfold inB at h2
  rw [Bool.and_eq_true] at h2
  exact ⟨(r / 2).toNat, by omega, of_decide_eq_true h2.2, hk, h1⟩
theorem starts_good {xs : List ByteArray} {z : Int} {ws : List Int} {aa : Nat} (h : aa ∈ startsN xs z ws) : nurB xs z ws = true := by
  cases hb : nurB xs z ws with
  | true => rfl
  | false => rw [starts_no hb] at h; cases h
set_option maxHeartbeats 2000000 in
set_option maxRecDepth 20000 in
theorem spec_yobj (w : World) (a : Option Addr) (cap : Nat) (xs : List ByteArray) (z : Int) (a2 : Option Addr) (n vcap : Nat) (ws : List Int) (r : Int) (hx : ws.length = n) (hxn : xs.length ≤ 1048576) (hl : Strs w a xs) (hz : ∀ i (hi : i < xs.length), xs[i].size ≤ 1048576) (hn : n ≤ 1048576) (hcap : n ≤ vcap) (hv : Nums w a2 ws) (hh : ∀ x ∈ ws, x < 9223372036854775808) (hgood : ∀ x ∈ startsN xs z ws, stepN xs ws x ≠ 0) :
    Calls Try.prog 106 #[.slice a xs.length cap, .agg #[.int .i64 z, .slice a2 n vcap], .int .i64 r] w fun e w' => AOut (fun s => .tuple #[.agg #[.int .i64 (yobT ws (startsN xs z ws) r), s], .bool (yobB (startsN xs z ws) r)]) (yobV xs ws (startsN xs z ws) r) w e w' := by
  obtain ⟨W, hW⟩ : ∃ W, W = (w.alloc (.cells #[.int .i64 z, .slice a2 n vcap] 31)).alloc (.cells #[.int .i64 0, .slice none 0 0] 52) := ⟨_, rfl⟩
  have HW : Hid (W = (w.alloc (.cells #[.int .i64 z, .slice a2 n vcap] 31)).alloc (.cells #[.int .i64 0, .slice none 0 0] 52)) := hW
  obtain ⟨hb0, hsz, c0, c1, r0, r1, rf⟩ := box3 w z a2 n vcap W hW
  have hlW := hl.below hb0
  have hvW := hv.below hb0
  have HRK : Hid (Calls _ _ _ W _) := specRefKind r W
  have HST : Hid (Calls _ _ _ W _) := spec_starts W a cap xs z a2 n vcap ws hx hxn hlW hz hn hvW hh
  have HCS : Hid (∀ w', Below W.heap.size W w' → w'.cell? ⟨w.heap.size, 0, none⟩ = some (.int .i64 z) ∧ w'.cell? ⟨w.heap.size, 1, none⟩ = some (.slice a2 n vcap)) := fun w' h =>
    ⟨by rw [h.cell (p := ⟨w.heap.size, 0, none⟩) (by show w.heap.size < _; omega)]; exact c0, by rw [h.cell (p := ⟨w.heap.size, 1, none⟩) (by show w.heap.size < _; omega)]; exact c1⟩
  have HRS : Hid (∀ w', Below W.heap.size W w' → w'.cell? ⟨w.heap.size + 1, 0, none⟩ = some (.int .i64 0) ∧ w'.cell? ⟨w.heap.size + 1, 1, none⟩ = some (.slice none 0 0) ∧ ∀ k, w'.frozen? ⟨w.heap.size + 1, k, none⟩ = false) := fun w' h =>
    ⟨by rw [h.cell (p := ⟨w.heap.size + 1, 0, none⟩) (by show w.heap.size + 1 < _; omega)]; exact r0, by rw [h.cell (p := ⟨w.heap.size + 1, 1, none⟩) (by show w.heap.size + 1 < _; omega)]; exact r1, fun k => by rw [h.frozen (p := ⟨w.heap.size + 1, k, none⟩) (by show w.heap.size + 1 < _; omega)]; exact rf k⟩
  have HB0 : Hid (Below w.heap.size w W) := hb0
  have HSZ : Hid (W.heap.size = w.heap.size + 2) := hsz
  have HLE : Hid ((startsN xs z ws).length ≤ ws.length) := starts_len xs z ws
  have HXL : Hid (ws.length = n) := hx
  have HOB : Hid (∀ aa, aa ∈ startsN xs z ws → ∀ w', Below W.heap.size W w' → Calls _ _ _ w' _) := fun aa ha w' h => by
    obtain ⟨htp, _, hz4, hzl⟩ := preN_facts (nurB_found (starts_good ha)).1
    have h23 : ∀ i (hi : i < xs.length), 1 ≤ xs[i].size ∧ xs[i].size ≤ 23 := by
      have h1 := htp
      unfold typesOk at h1
      rw [Bool.and_eq_true, List.all_eq_true] at h1
      exact fun i hi => isType_size (h1.2 _ (List.getElem_mem hi))
    exact spec_l8obj w' a cap xs z a2 n vcap ws aa hx (by omega) hcap hxn (hlW.below h) (hvW.below h) h23 (hgood aa ha)
  have HNO : Hid (∀ {e : Ending} {w' : World}, yobB (startsN xs z ws) r = false → e = .returned (.tuple #[.agg #[.int .i64 0, .slice none 0 0], .bool false]) → Below w.heap.size w w' → AOut (fun s => .tuple #[.agg #[.int .i64 (yobT ws (startsN xs z ws) r), s], .bool (yobB (startsN xs z ws) r)]) (yobV xs ws (startsN xs z ws) r) w e w') := fun hf he hb => by
    unfold yobT yobV
    rw [hf]
    exact aout_none he hb
  have HPL : Hid (∀ (w' : World) (sa : Option Addr) (sc : Nat) (q : Int), Nums w' sa (numsOf (startsN xs z ws)) → Calls _ _ _ w' _) := fun w' sa sc q hq => place_any w' sa (numsOf (startsN xs z ws)).length sc (numsOf (startsN xs z ws)) q rfl (by rw [numsOf_len]; have := starts_len xs z ws; omega) hq
  have hk := refKind_cases r
  have HKD : Hid (refKind r = refKind r) := rfl
  clear hW hl hv hb0 hlW hvW hx hh hz hsz r0 r1 rf hgood
  by_cases hk2 : refKind r = 2
  case neg =>
    have HF : Hid (yobB (startsN xs z ws) r = false) := yob_not hk2
    have hne : (refKind r != 2) = true := by simpa using hk2
    obtain ⟨r0, r1, rf⟩ := HRS.out W (Below.refl _ _)
    have z0 := rf 0
    have z1 := rf 1
    have HP2 : Hid (∀ x0 x1, _) := pair_set r0 r1
    have HBE : Hid (∀ x0 x1, Below w.heap.size w ((W.setCell ⟨w.heap.size + 1, 0, none⟩ x0).setCell ⟨w.heap.size + 1, 1, none⟩ x1)) := fun x0 x1 => (HB0.out.setCell (p := ⟨w.heap.size + 1, 0, none⟩) (by show w.heap.size ≤ w.heap.size + 1; omega) _).setCell (p := ⟨w.heap.size + 1, 1, none⟩) (by show w.heap.size ≤ w.heap.size + 1; omega) _
    generalize refKind r = k at HRK hne
    clear hk hk2 rf HKD
    go_enter Try.func106, Try.ntmps106
    go_wp2_with (rw [← HW.out])
    refine HRK.out.mono ?_
    rintro e w2 ⟨rfl, rfl⟩
    go_wp2
    refine bodyPost_ret (v := .tuple #[.agg #[.int .i64 0, .slice none 0 0], .bool false]) ?_ rfl (HNO.out HF.out rfl (HBE.out _ _))
    obtain ⟨q0, q1⟩ := HP2.out (.int .i64 0) (.slice none 0 0)
    simp [results, Try.results106, go_sem, q0, q1]
  case pos =>
    have h79 : 1 ≤ r ∧ r ≤ 799 := by
      have h := hk2
      unfold refKind at h
      split at h
      · omega
      · split at h
        · omega
        · split at h
          · omega
          · omega
    have hq0 : r.tdiv 2 = r / 2 := Int.tdiv_eq_ediv_of_nonneg (by omega)
    have hqw : IntKind.i64.wrap (r / 2) = r / 2 := by rw [IntKind.wrap_i64]; omega
    have hsk := seekI_in2 (startsN xs z ws) (r / 2) (by omega)
    have hyb : yobB (startsN xs z ws) r = inB (startsN xs z ws) (r / 2) := by unfold yobB; rw [hk2]; rfl
    rw [← hyb] at hsk
    have HPQ : Hid (∀ (w' : World) (sa : Option Addr) (sc : Nat), Nums w' sa (numsOf (startsN xs z ws)) → Calls _ _ _ w' _) := fun w' sa sc hq => HPL.out w' sa sc (r / 2) hq
    have hne : ((2 : Int) != 2) = false := by decide
    rw [hk2] at HRK
    generalize seekI (r / 2) (numsOf (startsN xs z ws)) (numsOf (startsN xs z ws)).length = q at HPQ hsk
    clear hk hk2 HKD HPL h79 hyb
    by_cases hb : yobB (startsN xs z ws) r = true
    case neg =>
      have hbf : yobB (startsN xs z ws) r = false := by simpa using hb
      rw [hbf] at hsk
      have hql : q < 0 := by have := of_decide_eq_false hsk; omega
      have HF : Hid (yobB (startsN xs z ws) r = false) := hbf
      generalize r / 2 = r2 at hq0 hqw HPQ
      clear hb hbf hsk
      go_enter Try.func106, Try.ntmps106
      go_wp2_with (rw [← HW.out])
      refine HRK.out.mono ?_
      rintro e w2 ⟨rfl, rfl⟩
      go_wp2_with fail
      refine HST.out.mono ?_
      rintro e w3 ⟨sa, sg, sc, rfl, hsg, hin, hb3⟩
      have HNU : Hid (Nums w3 sa (numsOf (startsN xs z ws))) := hin.nums
      obtain ⟨r0, r1, rf⟩ := HRS.out w3 hb3
      have z0 := rf 0
      have z1 := rf 1
      have HP2 : Hid (∀ x0 x1, _) := pair_set r0 r1
      have HBE : Hid (∀ x0 x1, Below w.heap.size w ((w3.setCell ⟨w.heap.size + 1, 0, none⟩ x0).setCell ⟨w.heap.size + 1, 1, none⟩ x1)) := fun x0 x1 => ((HB0.out.trans (hb3.mono HB0.out.size)).setCell (p := ⟨w.heap.size + 1, 0, none⟩) (by show w.heap.size ≤ w.heap.size + 1; omega) _).setCell (p := ⟨w.heap.size + 1, 1, none⟩) (by show w.heap.size ≤ w.heap.size + 1; omega) _
      clear hin hsg hb3 rf c0 c1
      go_wp2_with fail
      refine (HPQ.out w3 _ _ HNU.out).mono ?_
      rintro e w4 ⟨rfl, rfl⟩
      go_wp2
      refine bodyPost_ret (v := .tuple #[.agg #[.int .i64 0, .slice none 0 0], .bool false]) ?_ rfl (HNO.out HF.out rfl (HBE.out _ _))
      obtain ⟨q0, q1⟩ := HP2.out (.int .i64 0) (.slice none 0 0)
      simp [results, Try.results106, go_sem, q0, q1]
    case pos =>
      rw [hb] at hsk
      have hql : ¬ q < 0 := by have := of_decide_eq_true hsk; omega
      obtain ⟨aa, hae, ham, _, _⟩ := yob_facts hb
      have HOQ : Hid (∀ w', Below W.heap.size W w' → Calls _ _ _ w' _) := HOB.out aa ham
      have HAN : Hid (yobB (startsN xs z ws) r = true ∧ yobT ws (startsN xs z ws) r = ws.getD aa 0 / 4 ∧ yobV xs ws (startsN xs z ws) r = valsA xs ws aa) := by
        show _ ∧ _ ∧ _
        unfold yobT yobV
        rw [hb, hae, Int.toNat_natCast]
        exact ⟨rfl, rfl, rfl⟩
      rw [hae] at hq0 hqw HPQ
      generalize ws.getD aa 0 / 4 = ty at HOQ HAN
      generalize valsA xs ws aa = va at HOQ HAN
      clear hb hsk hae ham HOB HNO
      go_enter Try.func106, Try.ntmps106
      go_wp2_with (rw [← HW.out])
      refine HRK.out.mono ?_
      rintro e w2 ⟨rfl, rfl⟩
      go_wp2_with fail
      refine HST.out.mono ?_
      rintro e w3 ⟨sa, sg, sc, rfl, hsg, hin, hb3⟩
      have HNU : Hid (Nums w3 sa (numsOf (startsN xs z ws))) := hin.nums
      have HB3 : Hid (Below W.heap.size W w3) := hb3
      clear hin hsg hb3 c0 c1
      obtain ⟨c0, c1⟩ := HCS.out w3 HB3.out
      go_wp2_with fail
      refine (HPQ.out w3 _ _ HNU.out).mono ?_
      rintro e w4 ⟨rfl, rfl⟩
      go_wp2_with fail
      refine (HOQ.out w3 HB3.out).mono ?_
      rintro e w5 ⟨g5, c5, rfl, hg5, hi5, hb5⟩
      have HW5 : Hid (Below W.heap.size W w5) := HB3.out.trans (hb5.mono HB3.out.size)
      have HG5 : Hid (w.heap.size + 2 ≤ g5) := by show w.heap.size + 2 ≤ g5; have := HSZ.out; have := HB3.out.size; omega
      have HI5 : Hid (Ints w5 (some ⟨g5, 0, none⟩) g5 va) := hi5
      obtain ⟨r0, r1, rf⟩ := HRS.out w5 HW5.out
      have z0 := rf 0
      have z1 := rf 1
      have HP2 : Hid (∀ x0 x1, _) := pair_set r0 r1
      have HBE : Hid (∀ x0 x1, Below w.heap.size w ((w5.setCell ⟨w.heap.size + 1, 0, none⟩ x0).setCell ⟨w.heap.size + 1, 1, none⟩ x1)) := fun x0 x1 => ((HB0.out.trans (HW5.out.mono HB0.out.size)).setCell (p := ⟨w.heap.size + 1, 0, none⟩) (by show w.heap.size ≤ w.heap.size + 1; omega) _).setCell (p := ⟨w.heap.size + 1, 1, none⟩) (by show w.heap.size ≤ w.heap.size + 1; omega) _
      have HIE : Hid (∀ x0 x1, Ints ((w5.setCell ⟨w.heap.size + 1, 0, none⟩ x0).setCell ⟨w.heap.size + 1, 1, none⟩ x1) (some ⟨g5, 0, none⟩) g5 va) := fun x0 x1 => (HI5.out.grown (grown_set _ _ _ _) (by have := HG5.out; omega)).grown (grown_set _ _ _ _) (by have := HG5.out; omega)
      clear hi5 hg5 hb5 rf c0 c1
      go_wp2
      refine bodyPost_ret (v := .tuple #[.agg #[.int .i64 ty, .slice (some ⟨g5, 0, none⟩) va.length c5], .bool true]) ?_ rfl ?_
      · obtain ⟨q0, q1⟩ := HP2.out (.int .i64 ty) (.slice (some ⟨g5, 0, none⟩) va.length c5)
        simp [results, Try.results106, go_sem, q0, q1]
      · obtain ⟨e1, e2, e3⟩ := HAN.out
        rw [e1, e2, e3]
        exact ⟨_, g5, c5, rfl, by have := HG5.out; omega, HIE.out _ _, HBE.out _ _⟩
end Go.Proofs.Ytngpmohmnpbcnaa.nu
