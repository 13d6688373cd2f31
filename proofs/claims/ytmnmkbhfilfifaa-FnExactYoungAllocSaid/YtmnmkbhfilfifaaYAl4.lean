/-
  A new object, by the specification: the walk.
-/
import Derived.Test.YtmnmkbhfilfifaaYAl3
import Derived.Deep.RegionLaw
namespace Go.Proofs.Ytmnmkbhfilfifaa.nu
open Go.RowKit
open kinds ints ref obj

theorem ne_two {g7 g8 qb n : Nat} (h : g7 ≠ qb) (hl : qb < n) (h8 : g8 = g7 ∨ g8 = n) : g8 ≠ qb := by omega
theorem ints_own {w : World} {B g m c : Nat} {ys : List Int} (h : w.ownsRow B 2 1 (.slice (some ⟨g, 0, none⟩) m c) m (ys.map (Value.int .i64))) : Ints w (some ⟨g, 0, none⟩) g ys := by
  have hm : m = ys.length := by have := h.1; rw [List.length_map] at this; omega
  subst hm
  obtain ⟨a9, g9, c9, e9, hg9, hi9⟩ := ints_of_row h
  simp only [Value.slice.injEq] at e9
  obtain ⟨rfl, _, rfl⟩ := e9
  by_cases h0 : 0 < ys.length
  · have hgg : g = g9 := by
      have h0 := (hi9 0 h0).1
      simpa using h0
    rw [hgg] at hi9 ⊢
    exact hi9
  · intro i hi
    omega
theorem grown_pair {w7 : World} {qb g7 : Nat} {v0 v1 : Value} (y0 : w7.cell? ⟨qb, 0, none⟩ = some v0) (y1 : w7.cell? ⟨qb, 1, none⟩ = some v1) (yf : ∀ k, w7.frozen? ⟨qb, k, none⟩ = false) (yl : qb < w7.heap.size) (hne : g7 ≠ qb) :
    ∀ w8, w7.grownBy w8 (some g7) → w8.cell? ⟨qb, 0, none⟩ = some v0 ∧ w8.cell? ⟨qb, 1, none⟩ = some v1 ∧ (∀ k, w8.frozen? ⟨qb, k, none⟩ = false) ∧ qb < w7.heap.size := fun w8 h => by
  have hn : some qb ≠ some g7 := by simp; omega
  exact ⟨by rw [h.cell_far ⟨qb, 0, none⟩ yl hn]; exact y0, by rw [h.cell_far ⟨qb, 1, none⟩ yl hn]; exact y1, fun k => by rw [h.frozen_far ⟨qb, k, none⟩ yl hn]; exact yf k, yl⟩
set_option maxHeartbeats 2000000 in
set_option maxRecDepth 20000 in
theorem spec_yalloc (w : World) (a : Option Addr) (cap : Nat) (xs : List ByteArray) (z : Int) (a2 : Option Addr) (n vcap : Nat) (ws : List Int) (t : Int) (hx : ws.length = n) (hxn : xs.length ≤ 1048576) (hl : Strs w a xs) (hz : ∀ i (hi : i < xs.length), xs[i].size ≤ 1048576) (hn : n ≤ 1048576) (hv : Nums w a2 ws) (hh : ∀ x ∈ ws, x < 9223372036854775808) :
    Calls Try.prog 28 #[.slice a xs.length cap, .agg #[.int .i64 z, .slice a2 n vcap], .int .i64 t] w fun e w' => AlAns xs z ws t w e w' := by
  obtain ⟨i0, hi, hzz⟩ := Option.map_eq_some_iff.1 infoInt64
  simp only [Prod.mk.injEq] at hzz
  obtain ⟨hz0, hz1, hz2⟩ := hzz
  obtain ⟨W, hW⟩ : ∃ W, W = (w.alloc (.cells #[.int .i64 z, .slice a2 n vcap] 30)).alloc (.cells #[.int .i64 0, .slice none 0 0] 30) := ⟨_, rfl⟩
  have HW : Hid (W = (w.alloc (.cells #[.int .i64 z, .slice a2 n vcap] 30)).alloc (.cells #[.int .i64 0, .slice none 0 0] 30)) := hW
  obtain ⟨hb0, hsz, c0, c1, r0, r1, rf⟩ := boxT _ w z a2 n vcap W hW
  have HK : Hid (∀ w', Below W.heap.size W w' → w'.cell? ⟨w.heap.size, 0, none⟩ = some (.int .i64 z) ∧ w'.cell? ⟨w.heap.size, 1, none⟩ = some (.slice a2 n vcap)) := fun w' h =>
    ⟨by rw [h.cell (p := ⟨w.heap.size, 0, none⟩) (by show w.heap.size < _; omega)]; exact c0, by rw [h.cell (p := ⟨w.heap.size, 1, none⟩) (by show w.heap.size < _; omega)]; exact c1⟩
  have HRC : Hid (∀ w', Below W.heap.size W w' → w'.cell? ⟨w.heap.size + 1, 0, none⟩ = some (.int .i64 0) ∧ w'.cell? ⟨w.heap.size + 1, 1, none⟩ = some (.slice none 0 0) ∧ ∀ k, w'.frozen? ⟨w.heap.size + 1, k, none⟩ = false) := fun w' h =>
    ⟨by rw [h.cell (p := ⟨w.heap.size + 1, 0, none⟩) (by show w.heap.size + 1 < _; omega)]; exact r0, by rw [h.cell (p := ⟨w.heap.size + 1, 1, none⟩) (by show w.heap.size + 1 < _; omega)]; exact r1, fun k => by rw [h.frozen (p := ⟨w.heap.size + 1, k, none⟩) (by show w.heap.size + 1 < _; omega)]; exact rf k⟩
  have HB0 : Hid (Below w.heap.size w W) := hb0
  have HSZ : Hid (W.heap.size = w.heap.size + 2) := hsz
  have hlW := hl.below hb0
  have hvW := hv.below hb0
  have HLS : Hid (∀ w', Below W.heap.size W w' → Strs w' a xs) := fun w' h => hlW.below h
  have HNU : Hid (∀ w', Below W.heap.size W w' → Nums w' a2 ws) := fun w' h => hvW.below h
  have HX : Hid (ws.length = n) := hx
  have HAC : Hid (alC xs z ws t = if nurB xs z ws = false then 1 else if placeB xs.length t = false then 2 else if (ws.length : Int) + 1 + ((kd xs t).size : Int) ≤ z then 0 else 3) := rfl
  have HRT : Hid (nurB xs z ws = true → typesOk xs = true ∧ z ≤ 400 ∧ (ws.length : Int) ≤ z) := fun h => by
    have h1 := preN_facts (nurB_found h).1
    exact ⟨h1.1, h1.2.2.1, h1.2.2.2⟩
  have HNO : Hid (Calls _ _ _ W _) := spec_nurok W a cap xs z a2 n vcap ws hx hxn hlW hz hn hvW hh
  have HPI : Hid (∀ w : World, Calls Try.prog 49 #[.int .i64 t, .int .i64 0, .int .i64 ((xs.length : Int) - 1)] w fun e w' => e = .returned (.bool (placeB xs.length t)) ∧ w' = w) := fun w => by
    have h1 := specIn_any w t 0 ((xs.length : Int) - 1)
    have h2 : (decide (0 ≤ t) && decide (t ≤ (xs.length : Int) - 1)) = placeB xs.length t := by
      unfold placeB
      congr 1
      exact decide_eq_decide.2 (by omega)
    rw [h2] at h1
    exact h1.mono fun e w' h => ⟨h.1, h.2.symm⟩
  have hwl : IntKind.i64.wrap ((xs.length : Int) - 1) = (xs.length : Int) - 1 := by rw [IntKind.wrap_i64]; omega
  clear hW hl hv hb0 hx hh hz hsz r0 r1 rf hlW hvW
  go_enter Try.func28, Try.ntmps28
  go_wp2_with (rw [← HW.out])
  refine HNO.out.mono ?_
  rintro e w2 ⟨rfl, hb2⟩
  have HW2 : Hid (Below W.heap.size W w2) := hb2
  clear hb2 c0 c1
  cases hnb : nurB xs z ws with
  | false =>
    have HF : Hid (alC xs z ws t = 1) := by show _ = (1 : Int); rw [HAC.out, hnb]; rfl
    clear hnb
    obtain ⟨r0, r1, rf⟩ := HRC.out w2 HW2.out
    have z0 := rf 0
    have z1 := rf 1
    have HP2 : Hid (∀ x0 x1, _) := pair_set r0 r1
    have HBE : Hid (∀ x0 x1, Below w.heap.size w ((w2.setCell ⟨w.heap.size + 1, 0, none⟩ x0).setCell ⟨w.heap.size + 1, 1, none⟩ x1)) := fun x0 x1 => ((HB0.out.trans (HW2.out.mono HB0.out.size)).setCell (p := ⟨w.heap.size + 1, 0, none⟩) (by show w.heap.size ≤ w.heap.size + 1; omega) _).setCell (p := ⟨w.heap.size + 1, 1, none⟩) (by show w.heap.size ≤ w.heap.size + 1; omega) _
    clear rf
    go_wp2
    refine bodyPost_ret (v := .tuple #[.agg #[.int .i64 0, .slice none 0 0], .int .i64 0, .int .i64 1]) ?_ rfl (al_no HF.out (by decide) rfl (HBE.out _ _))
    obtain ⟨q0, q1⟩ := HP2.out (.int .i64 0) (.slice none 0 0)
    simp [results, Try.results28, go_sem, q0, q1]
  | true =>
  obtain ⟨htp, hz4, hwz⟩ := HRT.out hnb
  rw [hnb] at HAC
  cases hpb : placeB xs.length t with
  | false =>
    have HF : Hid (alC xs z ws t = 2) := by show _ = (2 : Int); rw [HAC.out, hpb]; rfl
    rw [hpb] at HPI
    clear hnb hpb
    go_wp2_with fail
    refine (HPI.out w2).mono ?_
    rintro e w3 ⟨rfl, hw3⟩
    subst hw3
    obtain ⟨r0, r1, rf⟩ := HRC.out _ HW2.out
    have z0 := rf 0
    have z1 := rf 1
    have HP2 : Hid (∀ x0 x1, _) := pair_set r0 r1
    have HBE : Hid (∀ x0 x1, Below w.heap.size w ((w3.setCell ⟨w.heap.size + 1, 0, none⟩ x0).setCell ⟨w.heap.size + 1, 1, none⟩ x1)) := fun x0 x1 => ((HB0.out.trans (HW2.out.mono HB0.out.size)).setCell (p := ⟨w.heap.size + 1, 0, none⟩) (by show w.heap.size ≤ w.heap.size + 1; omega) _).setCell (p := ⟨w.heap.size + 1, 1, none⟩) (by show w.heap.size ≤ w.heap.size + 1; omega) _
    clear rf
    go_wp2
    refine bodyPost_ret (v := .tuple #[.agg #[.int .i64 0, .slice none 0 0], .int .i64 0, .int .i64 2]) ?_ rfl (al_no HF.out (by decide) rfl (HBE.out _ _))
    obtain ⟨q0, q1⟩ := HP2.out (.int .i64 0) (.slice none 0 0)
    simp [results, Try.results28, go_sem, q0, q1]
  | true =>
  obtain ⟨p, rfl, hpl⟩ := placeB_nat hpb
  rw [hpb, kd_at p hpl] at HAC
  rw [hpb] at HPI
  have hs23 : 1 ≤ xs[p].size ∧ xs[p].size ≤ 23 := by
    have h1 := htp
    unfold typesOk at h1
    rw [Bool.and_eq_true, List.all_eq_true] at h1
    exact isType_size (h1.2 _ (List.getElem_mem hpl))
  obtain ⟨b2, o2, rfl, s0⟩ := HLS.out w2 HW2.out p hpl
  have HSC : Hid (∀ w', Below w2.heap.size w2 w' → w'.cell? ⟨b2, o2 + p, none⟩ = some (.string xs[p])) := fun w' h => by rw [h.cell (p := ⟨b2, o2 + p, none⟩) (World.block_lt_of_cell? _ _ s0)]; exact s0
  have hpi : (p : Int) < (xs.length : Int) := by omega
  have hp0 : (0 : Int) ≤ (p : Int) := by omega
  have HKD : Hid (kd xs (p : Int) = xs[p]) := kd_at p hpl
  have hn4 : n ≤ 400 := by have := HX.out; omega
  have hpb4 : p ≤ 1048576 := by omega
  clear hnb hpb
  generalize xs[p] = s at HAC hs23 s0 HSC HKD
  clear hpl htp
  clear s0
  go_wp2_with fail
  refine (HPI.out w2).mono ?_
  rintro e w3 ⟨rfl, hw3⟩
  have hw4 := hw3.symm
  subst hw4
  clear hw3
  obtain ⟨k0, k1⟩ := HK.out w2 HW2.out
  go_wp2_with fail
  have hw1 : IntKind.i64.wrap ((n : Int) + 1) = (n : Int) + 1 := by rw [IntKind.wrap_i64]; omega
  have hw2 : IntKind.i64.wrap ((n : Int) + 1 + (s.size : Int)) = (n : Int) + 1 + (s.size : Int) := by rw [IntKind.wrap_i64]; omega
  have HS6 : Hid (∀ w', Below w2.heap.size w2 w' → w'.cell? ⟨w.heap.size, 0, none⟩ = some (.int .i64 z) ∧ w'.cell? ⟨b2, o2 + p, none⟩ = some (.string s)) := fun w' h => ⟨(HK.out w' (HW2.out.trans (h.mono HW2.out.size))).1, HSC.out w' h⟩
  have hacc : Below w2.heap.size w2 w2.drew := (Below.refl _ _).drew
  obtain ⟨j0, j1⟩ := HS6.out w2 (Below.refl _ _)
  go_region_held3 (fun w' => w'.cell? ⟨w.heap.size, 0, none⟩ = some (.int .i64 z) ∧ w'.cell? ⟨b2, o2 + p, none⟩ = some (.string s)) (first | with_reducible exact HS6.out _ hacc) (fail "no call")
  all_goals
    have HW5 : Hid (Below W.heap.size W w2.drew) := HW2.out.drew
    have HS5 : Hid (∀ w', Below w2.drew.heap.size w2.drew w' → w'.cell? ⟨b2, o2 + p, none⟩ = some (.string s)) := fun w' h => HSC.out w' ((Below.refl _ _).drew.trans (by simpa using h))
    clear hacc j0 j1 k0 k1 HS6 HSC
    rename_i hS9
    clear hS9
    generalize w2.drew = w5 at HW5 HS5 ⊢
    by_cases hfit : (ws.length : Int) + 1 + (s.size : Int) ≤ z
    · have HF : Hid (alC xs z ws (p : Int) = 0) := by show _ = (0 : Int); rw [HAC.out]; simp [hfit]
      have hlt : ¬ z < (n : Int) + 1 + (s.size : Int) := by have := HX.out; omega
      have HCP : Hid (Calls _ _ _ w5 _) := spec_l8own w5 z a2 n vcap ws HX.out hn (HNU.out w5 HW5.out)
      obtain ⟨k0, k1⟩ := HK.out w5 HW5.out
      go_wp2_with fail
      refine HCP.out.mono ?_
      rintro e w6 ⟨g6, c6, rfl, how6, hb6⟩
      clear k0 k1
      obtain ⟨Q, hQ⟩ : ∃ Q, Q = w6.alloc (.cells #[.int .i64 z, .slice (some ⟨g6, 0, none⟩) n c6] 30) := ⟨_, rfl⟩
      obtain ⟨qb, hqb⟩ : ∃ qb, qb = w6.heap.size := ⟨_, rfl⟩
      have HQ : Hid (Q = w6.alloc (.cells #[.int .i64 z, .slice (some ⟨g6, 0, none⟩) n c6] 30)) := hQ
      have HQB : Hid (qb = w6.heap.size) := hqb
      have hbQ : Below w6.heap.size w6 Q := by rw [hQ]; exact (Below.refl _ _).alloc (Nat.le_refl _) _
      have HQS : Hid (Q.heap.size = qb + 1) := by show _ = _; rw [hQ, hqb]; simp
      have u0 : Q.cell? ⟨qb, 0, none⟩ = some (.int .i64 z) := by rw [hQ, hqb, World.cell?_alloc_new]; rfl
      have u1 : Q.cell? ⟨qb, 1, none⟩ = some (.slice (some ⟨g6, 0, none⟩) n c6) := by rw [hQ, hqb, World.cell?_alloc_new]; rfl
      have uf : ∀ k, Q.frozen? ⟨qb, k, none⟩ = false := fun k => by rw [hQ, hqb]; exact World.frozen?_alloc_new _ _ _ _
      have HGL : Hid (w5.heap.size ≤ g6 ∧ g6 < qb) := by have := how6.lt g6 rfl; show _ ∧ _; rw [hqb]; exact this
      have HBQ : Hid (Below w5.heap.size w5 Q) := hb6.trans (hbQ.mono hb6.size)
      have HQX : Hid (Below w5.heap.size w5 (Q.alloc (.cells #[.int .i64 (4 * (p : Int))] 2)).drew) := HBQ.out.trans ((((Below.refl _ _).alloc (Nat.le_refl _) _).drew).mono HBQ.out.size)
      have HQD : Hid (Below w5.heap.size w5 Q.drew) := HBQ.out.drew
      have HOX : Hid ((Q.alloc (.cells #[.int .i64 (4 * (p : Int))] 2)).drew.ownsRow w5.heap.size 2 1 (.slice (some ⟨g6, 0, none⟩) n c6) n (ws.map (Value.int .i64))) := own_below (own_below how6 hbQ) ((Below.refl _ _).alloc (Nat.le_refl _) _).drew
      have HNC : Hid (∀ j u, [Value.int .i64 (4 * (p : Int))][j]? = some u → (Q.alloc (.cells #[.int .i64 (4 * (p : Int))] 2)).drew.cell? ((⟨Q.heap.size, 0, none⟩ : Addr).add j) = some u) := fun j u h => by
        have h1 := cell_one_new Q (.int .i64 (4 * (p : Int))) 2 j u h
        simpa using h1
      have H1C : Hid (∀ u ∈ [Value.int .i64 (4 * (p : Int))], u.oneCell' = true) := fun u hu => by
        rw [List.mem_singleton.1 hu]; rfl
      have hw3 : IntKind.i64.wrap (4 * (p : Int)) = 4 * (p : Int) := by rw [IntKind.wrap_i64]; omega
      have hw4 : IntKind.i64.wrap (2 * (n : Int)) = 2 * (n : Int) := by rw [IntKind.wrap_i64]; omega
      have hw5 : IntKind.i64.wrap (2 * (n : Int) + 1) = 2 * (n : Int) + 1 := by rw [IntKind.wrap_i64]; omega
      have HN4 : Hid (n ≤ 400) := hn4
      have HS23 : Hid (1 ≤ s.size ∧ s.size ≤ 23) := hs23
      -- what stands of the copy's variable behind the first append
      have HV7 : Hid (∀ w7, (Q.alloc (.cells #[.int .i64 (4 * (p : Int))] 2)).drew.grownBy w7 (some g6) → w7.cell? ⟨qb, 0, none⟩ = some (.int .i64 z) ∧ w7.cell? ⟨qb, 1, none⟩ = some (.slice (some ⟨g6, 0, none⟩) n c6) ∧ (∀ k, w7.frozen? ⟨qb, k, none⟩ = false) ∧ qb < w7.heap.size) := fun w7 h => by
        have hlt : qb < (Q.alloc (.cells #[.int .i64 (4 * (p : Int))] 2)).drew.heap.size := by simp; have := HQS.out; omega
        have hne : some qb ≠ some g6 := by have := HGL.out; simp; omega
        have hsz := h.size
        refine ⟨by rw [h.cell_far ⟨qb, 0, none⟩ hlt hne]; simpa [World.cell?_alloc_past, HQS.out] using u0, by rw [h.cell_far ⟨qb, 1, none⟩ hlt hne]; simpa [World.cell?_alloc_past, HQS.out] using u1, fun k => by rw [h.frozen_far ⟨qb, k, none⟩ hlt hne]; simpa [World.frozen?_alloc_past, HQS.out] using uf k, by omega⟩
      have HNE : Hid (∀ g7, ((Value.slice (some ⟨g6, 0, none⟩) n c6).ownBlock = some g7 ∨ g7 = (Q.alloc (.cells #[.int .i64 (4 * (p : Int))] 2)).drew.heap.size) → g7 ≠ qb) := fun g7 h => by
        have h1 := HGL.out
        have h2 := HQS.out
        rcases h with h | h
        · have : g6 = g7 := by simpa [Value.ownBlock] using h
          omega
        · have : g7 = Q.heap.size + 1 := by rw [h]; simp
          omega
      have HSQ : Hid (∀ w', Below w5.heap.size w5 w' → w'.cell? ⟨b2, o2 + p, none⟩ = some (.string s)) := fun w' h => HS5.out w' h
      have v0 := HSQ.out Q HBQ.out
      have v1 : (Q.alloc (.cells #[.int .i64 (4 * (p : Int))] 2)).cell? ⟨b2, o2 + p, none⟩ = some (.string s) := by simpa using HSQ.out _ HQX.out
      have u2 : (Q.alloc (.cells #[.int .i64 (4 * (p : Int))] 2)).cell? ⟨qb, 1, none⟩ = some (.slice (some ⟨g6, 0, none⟩) n c6) := by simpa [World.cell?_alloc_past, HQS.out] using u1
      have zf := uf 1
      clear hQ hqb hbQ how6 hb6 uf
      go_wp2_with (first | (rw [← HQ.out, ← HQB.out]) | (rw [← HQ.out]))
      try rw [← HQB.out]
      go_region_law ((first | (refine step_append_lies _ (by rfl) _ _ _ (by rfl) w5.heap.size 2 i0 (.int .i64 0) 1 8 Try.underlying23 hi hz0 hz1 hz2 rfl (by decide) (.slice (some ⟨g6, 0, none⟩) n c6) n (ws.map (Value.int .i64)) (by rfl) HOX.out ⟨Q.heap.size, 0, none⟩ 1 1 [.int .i64 (4 * (p : Int))] (by rfl) rfl HNC.out H1C.out (by decide) (by have := HN4.out; unfold maxLen; omega) (by have := HN4.out; omega) HQX.out.size _ rfl ?_; intro g7 c7 w7 hown7 hgrow7 hat7 hlt7; have HO7 : Hid (w7.ownsRow _ _ _ _ _ _) := hown7; have H7 : Hid (Below w5.heap.size w5 w7) := own_step HOX.out HQX.out HQX.out.size hgrow7; have HG7 : Hid (g7 ≠ qb) := HNE.out g7 hat7; obtain ⟨y0, y1, yf, yl⟩ := HV7.out w7 hgrow7; have HV8 : Hid (∀ w8, w7.grownBy w8 (some g7) → w8.cell? ⟨qb, 0, none⟩ = some (.int .i64 z) ∧ w8.cell? ⟨qb, 1, none⟩ = some (.slice (some ⟨g6, 0, none⟩) n c6) ∧ (∀ k, w8.frozen? ⟨qb, k, none⟩ = false) ∧ qb < w7.heap.size) := grown_pair y0 y1 yf yl HG7.out; have v7 := HSQ.out w7 H7.out; clear hown7 hgrow7 hat7 hlt7 y0 y1 yf yl) | (refine step_zeros w7 (by rfl) _ _ (by rfl) w5.heap.size g7 (n + 1) c7 s.size _ (by rfl) HO7.out (by rfl) HS23.out.1 (by have := HN4.out; have := HS23.out; omega) H7.out.size ?_; intro g8 c8 w8 hown8 hgrow8 hat8; have H8 : Hid (Below w5.heap.size w5 w8) := own_step HO7.out H7.out H7.out.size hgrow8; obtain ⟨y0, y1, yf, yl⟩ := HV8.out w8 hgrow8; have HG8 : Hid (g8 ≠ qb) := ne_two HG7.out yl hat8; have HO8 : Hid (w8.ownsRow _ _ _ _ _ _) := hown8; have HYF : Hid (∀ k, w8.frozen? ⟨qb, k, none⟩ = false) := yf; have yz := yf 1; clear hown8 hgrow8 hat8 yf)))
      all_goals
        clear u0 u1 u2 v0 v1 v7 zf yz HNE HV7 HV8 HNC HSQ
        obtain ⟨X, hX⟩ : ∃ X, X = w8.setCell ⟨qb, 1, none⟩ (.slice (some ⟨g8, 0, none⟩) (n + 1 + s.size) c8) := ⟨_, rfl⟩
        rw [← hX]
        have x0 : X.cell? ⟨qb, 0, none⟩ = some (.int .i64 z) := by rw [hX, World.cell?_setCell_other _ _ _ _ (cell_ne qb 1 0 (by omega))]; exact y0
        have x1 : X.cell? ⟨qb, 1, none⟩ = some (.slice (some ⟨g8, 0, none⟩) (n + 1 + s.size) c8) := by rw [hX]; exact World.cell?_setCell_same _ _ _ y1
        have HBX : Hid (Below w5.heap.size w5 X) := by show Below _ _ _; rw [hX]; exact H8.out.setCell (p := ⟨qb, 1, none⟩) (by show w5.heap.size ≤ qb; have := HGL.out; omega) _
        have HWX : Hid (Below W.heap.size W X) := HW5.out.trans (HBX.out.mono HW5.out.size)
        have hme : (ws ++ (4 * (p : Int)) :: List.replicate s.size 0).map (Value.int .i64) = ws.map (Value.int .i64) ++ [Value.int .i64 (4 * (p : Int))] ++ List.replicate s.size (Value.int .i64 0) := by simp
        have HIX : Hid (Ints X (some ⟨g8, 0, none⟩) g8 (ws ++ (4 * (p : Int)) :: List.replicate s.size 0)) := by
          have h1 := HO8.out
          rw [← hme] at h1
          show Ints _ _ _ _
          rw [hX]
          exact ints_own (h1.kept (grown_set _ _ _ _) (.inr (by have := HG8.out; simp [Value.ownBlock]; omega)))
        have HG9 : Hid (w.heap.size + 2 ≤ g8) := by show w.heap.size + 2 ≤ g8; have := (HO8.out.lt g8 rfl).1; have := HSZ.out; have := HW5.out.size; omega
        obtain ⟨r0, r1, rf⟩ := HRC.out X HWX.out
        have z0 := rf 0
        have z1 := rf 1
        have HP2 : Hid (∀ x0 x1, _) := pair_set r0 r1
        have HBE : Hid (∀ x0 x1, Below w.heap.size w ((X.setCell ⟨w.heap.size + 1, 0, none⟩ x0).setCell ⟨w.heap.size + 1, 1, none⟩ x1)) := fun x0 x1 => ((HB0.out.trans (HWX.out.mono HB0.out.size)).setCell (p := ⟨w.heap.size + 1, 0, none⟩) (by show w.heap.size ≤ w.heap.size + 1; omega) _).setCell (p := ⟨w.heap.size + 1, 1, none⟩) (by show w.heap.size ≤ w.heap.size + 1; omega) _
        have HIE : Hid (∀ x0 x1, Ints ((X.setCell ⟨w.heap.size + 1, 0, none⟩ x0).setCell ⟨w.heap.size + 1, 1, none⟩ x1) (some ⟨g8, 0, none⟩) g8 (ws ++ (4 * (p : Int)) :: List.replicate s.size 0)) := fun x0 x1 => (HIX.out.grown (grown_set _ _ _ _) (by have := HG9.out; omega)).grown (grown_set _ _ _ _) (by have := HG9.out; omega)
        clear rf hX y0 y1 yl HO8 HYF hme HO7
        go_wp2
        refine bodyPost_ret (v := .tuple #[.agg #[.int .i64 z, .slice (some ⟨g8, 0, none⟩) (n + 1 + s.size) c8], .int .i64 (2 * (n : Int) + 1), .int .i64 0]) ?_ rfl (al_yes HF.out ?_)
        · obtain ⟨q0, q1⟩ := HP2.out (.int .i64 z) (.slice (some ⟨g8, 0, none⟩) (n + 1 + s.size) c8)
          simp [results, Try.results28, go_sem, q0, q1]
        · rw [HKD.out]
          exact ⟨_, g8, c8, by rw [List.length_append, List.length_cons, List.length_replicate, HX.out, show n + (s.size + 1) = n + 1 + s.size by omega], by have := HG9.out; omega, HIE.out _ _, HBE.out _ _⟩
    · have HF : Hid (alC xs z ws (p : Int) = 3) := by show _ = (3 : Int); rw [HAC.out]; simp [hfit]
      have hlt : z < (n : Int) + 1 + (s.size : Int) := by have := HX.out; omega
      obtain ⟨r0, r1, rf⟩ := HRC.out w5 HW5.out
      have z0 := rf 0
      have z1 := rf 1
      have HP2 : Hid (∀ x0 x1, _) := pair_set r0 r1
      have HBE : Hid (∀ x0 x1, Below w.heap.size w ((w5.setCell ⟨w.heap.size + 1, 0, none⟩ x0).setCell ⟨w.heap.size + 1, 1, none⟩ x1)) := fun x0 x1 => ((HB0.out.trans (HW5.out.mono HB0.out.size)).setCell (p := ⟨w.heap.size + 1, 0, none⟩) (by show w.heap.size ≤ w.heap.size + 1; omega) _).setCell (p := ⟨w.heap.size + 1, 1, none⟩) (by show w.heap.size ≤ w.heap.size + 1; omega) _
      clear rf
      go_wp2
      refine bodyPost_ret (v := .tuple #[.agg #[.int .i64 0, .slice none 0 0], .int .i64 0, .int .i64 3]) ?_ rfl (al_no HF.out (by decide) rfl (HBE.out _ _))
      obtain ⟨q0, q1⟩ := HP2.out (.int .i64 0) (.slice none 0 0)
      simp [results, Try.results28, go_sem, q0, q1]
end Go.Proofs.Ytmnmkbhfilfifaa.nu
