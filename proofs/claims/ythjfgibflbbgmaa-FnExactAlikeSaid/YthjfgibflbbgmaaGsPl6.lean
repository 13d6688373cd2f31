/-
  A plain graph, by both, for every graph.
-/
import Derived.Test.YthjfgibflbbgmaaGsPl2
import Derived.Test.YthjfgibflbbgmaaGsPl3
namespace Go.Proofs.Ythjfgibflbbgmaa.gs
open Go.RowKit
open kinds ints obj ref gr cl

theorem plainR_yes {xs : List ByteArray} {rs : List Int} {ns : List Nd} (h : graphB xs rs ns = true) : plainR xs rs ns = rs.map (newR (foundG xs rs ns)) := by unfold plainR; rw [if_pos h]
theorem plainN_yes {xs : List ByteArray} {rs : List Int} {ns : List Nd} (h : graphB xs rs ns = true) : plainN xs rs ns = plainK xs ns (foundG xs rs ns) (foundG xs rs ns).length := by unfold plainN; rw [if_pos h]
theorem plainR_no {xs : List ByteArray} {rs : List Int} {ns : List Nd} (h : graphB xs rs ns = false) : plainR xs rs ns = [] := by unfold plainR; rw [if_neg (by rw [h]; decide)]
theorem plainN_no {xs : List ByteArray} {rs : List Int} {ns : List Nd} (h : graphB xs rs ns = false) : plainN xs rs ns = [] := by unfold plainN; rw [if_neg (by rw [h]; decide)]
theorem plainK_mem (xs : List ByteArray) (ns : List Nd) (F : List Int) (h : ∀ x ∈ ns, x.2.length ≤ 23) : ∀ k, ∀ x ∈ plainK xs ns F k, x.2.length ≤ 23
  | 0, x, hx => by cases hx
  | k + 1, x, hx => by
    rcases List.mem_append.1 hx with q | q
    · exact plainK_mem xs ns F h k x q
    · rw [List.mem_singleton.1 q, newN_len]
      rw [List.getD_eq_getElem?_getD]
      rcases hq : ns[(F.getD k 0).toNat]? with _ | y
      · simp
      · exact h y (List.mem_of_getElem? hq)
theorem plain_small (xs : List ByteArray) (rs : List Int) (ns : List Nd) : (plainR xs rs ns).length ≤ 40 ∧ (plainN xs rs ns).length ≤ 400 ∧ ∀ x ∈ plainN xs rs ns, x.2.length ≤ 23 := by
  cases hok : graphB xs rs ns with
  | false => rw [plainR_no hok, plainN_no hok]; exact ⟨Nat.zero_le _, Nat.zero_le _, fun x hx => by cases hx⟩
  | true =>
    obtain ⟨htp, h40, h400, hin, hnd⟩ := graph_facts hok
    obtain ⟨hfn, hfg⟩ := foundG_good hin hnd
    have hf4 := good_len hfn hfg
    rw [plainR_yes hok, plainN_yes hok]
    refine ⟨by rw [List.length_map]; exact h40, by rw [plainK_len]; omega, plainK_mem xs ns _ (fun x hx => ?_) _⟩
    obtain ⟨i, hi, rfl⟩ := List.getElem_of_mem hx
    obtain ⟨p, _, _, _, _, h23, _⟩ := node_fits htp hnd hi
    exact h23
theorem impl_plain (w : World) (a : Option Addr) (cap : Nat) (xs : List ByteArray) (b : Option Addr) (vc : Nat) (rs : List Int) (c : Option Addr) (cc : Nat) (ns : List Nd) (hn : xs.length ≤ 1048576) (hz : ∀ i (hi : i < xs.length), xs[i].size ≤ 1048576) (hrl : rs.length ≤ 1048576) (hnl : ns.length ≤ 1048576) (hl : Strs w a xs) (hr : Nums w b rs) (hg : Nodes w c ns) :
    Calls Try.prog 24 #[.slice a xs.length cap, .agg #[.slice b rs.length vc, .slice c ns.length cc]] w fun e w' => PAns (plainR xs rs ns) (plainN xs rs ns) w e w' := by
  cases hok : graphB xs rs ns with
  | false => rw [plainR_no hok, plainN_no hok]; exact impl_plain_no w a cap xs b vc rs c cc ns hn hz hrl hnl hl hr hg hok
  | true => rw [plainR_yes hok, plainN_yes hok]; exact impl_plain_yes w a cap xs b vc rs c cc ns hn hz hl hr hg hok
theorem pans_up {rs : List Int} {L : List En} {w W w4 : World} {a : Option Addr} {gr c : Nat} {v x0 x1 : Value} (h1 : Ints w4 a gr rs) (h2 : W.heap.size ≤ gr) (h3 : RowE w4 W.heap.size v L) (h4 : v.ownBlock ≠ some gr) (h5 : ∀ x ∈ L, x.1 ≠ gr) (h6 : Below W.heap.size W w4) (hb : Below w.heap.size w W) (hs : w.heap.size + 1 < W.heap.size) :
    PAns rs (ndsE L) w (.returned (.agg #[.slice a rs.length c, v])) ((w4.setCell ⟨w.heap.size + 1, 0, none⟩ x0).setCell ⟨w.heap.size + 1, 1, none⟩ x1) := by
  have hset : ∀ (X : World) (j : Nat) (x : Value), RowE X W.heap.size v L → RowE (X.setCell ⟨w.heap.size + 1, j, none⟩ x) W.heap.size v L := fun X j x h => h.kept (grown_set _ _ _ _) (fun r q => by
    have q2 : w.heap.size + 1 = r := Option.some.inj q
    subst q2
    exact ⟨fun z => by have := (h.row.lt _ z).1; omega, fun y hy => by have := (h.vals y hy).2.1; omega⟩)
  refine ⟨a, gr, c, v, L, rfl, rfl, (h1.grown2 (grown_set _ _ _ _) (fun _ => by omega)).grown2 (grown_set _ _ _ _) (fun _ => by omega), by omega, ((hset _ _ _ (hset _ _ _ h3)).mono (by omega)), h4, h5, ?_⟩
  exact ((hb.trans (h6.mono hb.size)).setCell (p := ⟨w.heap.size + 1, 0, none⟩) (by show w.heap.size ≤ w.heap.size + 1; omega) _).setCell (p := ⟨w.heap.size + 1, 1, none⟩) (by show w.heap.size ≤ w.heap.size + 1; omega) _
set_option maxHeartbeats 2000000 in
set_option maxRecDepth 20000 in
theorem spec_plain (w : World) (a : Option Addr) (cap : Nat) (xs : List ByteArray) (b : Option Addr) (vc : Nat) (rs : List Int) (c : Option Addr) (cc : Nat) (ns : List Nd) (hn : xs.length ≤ 1048576) (hz : ∀ i (hi : i < xs.length), xs[i].size ≤ 1048576) (hrl : rs.length ≤ 1048576) (hnl : ns.length ≤ 1048576) (hl : Strs w a xs) (hr : Nums w b rs) (hg : Nodes w c ns) :
    Calls Try.prog 23 #[.slice a xs.length cap, .agg #[.slice b rs.length vc, .slice c ns.length cc]] w fun e w' => PAns (plainR xs rs ns) (plainN xs rs ns) w e w' := by
  obtain ⟨W, hW⟩ : ∃ W, W = (w.alloc (.cells #[.slice b rs.length vc, .slice c ns.length cc] 33)).alloc (.cells #[.slice none 0 0, .slice none 0 0] 33) := ⟨_, rfl⟩
  have HW : Hid (W = (w.alloc (.cells #[.slice b rs.length vc, .slice c ns.length cc] 33)).alloc (.cells #[.slice none 0 0, .slice none 0 0] 33)) := hW
  have hb0 : Below w.heap.size w W := by rw [hW]; exact ((Below.refl _ _).alloc (Nat.le_refl _) _).alloc (by simp) _
  have HB0 : Hid (Below w.heap.size w W) := hb0
  have hsz : W.heap.size = w.heap.size + 2 := by rw [hW]; simp
  have HSZ : Hid (W.heap.size = w.heap.size + 2) := hsz
  have k0 : W.cell? ⟨w.heap.size, 0, none⟩ = some (.slice b rs.length vc) := by rw [hW, World.cell?_alloc_past _ _ _ (by simp), World.cell?_alloc_at _ _ _ _ (by simp)]; rfl
  have k1 : W.cell? ⟨w.heap.size, 1, none⟩ = some (.slice c ns.length cc) := by rw [hW, World.cell?_alloc_past _ _ _ (by simp), World.cell?_alloc_at _ _ _ _ (by simp)]; rfl
  have HCS : Hid (∀ w', Below W.heap.size W w' → w'.cell? ⟨w.heap.size, 0, none⟩ = some (.slice b rs.length vc) ∧ w'.cell? ⟨w.heap.size, 1, none⟩ = some (.slice c ns.length cc)) := fun w' h =>
    ⟨by rw [h.cell (p := ⟨w.heap.size, 0, none⟩) (by show w.heap.size < _; omega)]; exact k0, by rw [h.cell (p := ⟨w.heap.size, 1, none⟩) (by show w.heap.size < _; omega)]; exact k1⟩
  have r0 : ∀ j, j < 2 → W.cell? ⟨w.heap.size + 1, j, none⟩ = some (.slice none 0 0) ∧ W.frozen? ⟨w.heap.size + 1, j, none⟩ = false := fun j hj => ⟨by rw [hW, World.cell?_alloc_at _ _ _ _ (by simp)]; match j, hj with | 0, _ => rfl | 1, _ => rfl, by rw [hW, World.frozen?_alloc_at _ _ _ _ (by simp)]⟩
  have HR : Hid (∀ w', Below W.heap.size W w' → ∀ j, j < 2 → w'.cell? ⟨w.heap.size + 1, j, none⟩ = some (.slice none 0 0) ∧ w'.frozen? ⟨w.heap.size + 1, j, none⟩ = false) := fun w' h j hj => ⟨by rw [h.cell (p := ⟨w.heap.size + 1, j, none⟩) (by show w.heap.size + 1 < _; omega)]; exact (r0 j hj).1, by rw [h.frozen (p := ⟨w.heap.size + 1, j, none⟩) (by show w.heap.size + 1 < _; omega)]; exact (r0 j hj).2⟩
  have HGO : Hid (Calls _ _ _ W _) := spec_graphok W a cap xs b vc rs c cc ns hn hz hrl hnl (hl.below hb0) (hr.below hb0) (hg.below hb0)
  have HPL : Hid (graphB xs rs ns = true → ∀ w', Below W.heap.size W w' → Calls _ _ _ w' _) := fun h w' hb => spec_l7plain w' a cap xs b vc rs c cc ns ((hl.below hb0).below hb) ((hr.below hb0).below hb) ((hg.below hb0).below hb) h
  have HPR : Hid (graphB xs rs ns = true → plainR xs rs ns = rs.map (newR (foundG xs rs ns)) ∧ plainN xs rs ns = plainK xs ns (foundG xs rs ns) (foundG xs rs ns).length) := fun h => ⟨plainR_yes h, plainN_yes h⟩
  have HPN : Hid (graphB xs rs ns = false → plainR xs rs ns = [] ∧ plainN xs rs ns = []) := fun h => ⟨plainR_no h, plainN_no h⟩
  generalize plainR xs rs ns = pr at HPR HPN ⊢
  generalize plainN xs rs ns = pn at HPR HPN ⊢
  clear hW hb0 hsz r0 hl hr hg hn hz hrl hnl
  cases hok : graphB xs rs ns with
  | false =>
    rw [hok] at HGO
    obtain ⟨rfl, rfl⟩ := HPN.out hok
    clear hok HPR HPL HPN
    go_enter Try.func23, Try.ntmps23
    go_wp2_with (rw [← HW.out])
    refine HGO.out.mono ?_
    rintro e w2 ⟨rfl, hb2⟩
    have HB2 : Hid (Below W.heap.size W w2) := hb2
    obtain ⟨q0, f0⟩ := HR.out w2 hb2 0 (by omega)
    obtain ⟨q1, f1⟩ := HR.out w2 hb2 1 (by omega)
    have HP : Hid (∀ x0 x1, _) := pair_set q0 q1
    clear hb2 k0 k1
    go_wp2
    refine bodyPost_ret (v := .agg #[.slice none 0 0, .slice none 0 0]) ?_ rfl ?_
    · obtain ⟨e0, e1⟩ := HP.out (.slice none 0 0) (.slice none 0 0)
      simp [results, Try.results23, go_sem, e0, e1]
    · exact pans_up (rs := []) (L := []) (gr := W.heap.size) (fun i hi => by cases hi) (Nat.le_refl _) (RowE.nil _ _) (fun q => by cases q) (fun x hx => by cases hx) HB2.out HB0.out (by have := HSZ.out; omega)
  | true =>
    rw [hok] at HGO
    obtain ⟨hpr, hpn⟩ := HPR.out hok
    have HP2 := HPL.out hok
    rw [← hpr, ← hpn] at HP2
    have HP3 : Hid (∀ w', Below W.heap.size W w' → Calls _ _ _ w' _) := HP2
    clear hok HPR HPL HPN HP2 hpr hpn
    go_enter Try.func23, Try.ntmps23
    go_wp2_with (rw [← HW.out])
    refine HGO.out.mono ?_
    rintro e w2 ⟨rfl, hb2⟩
    have HB2 : Hid (Below W.heap.size W w2) := hb2
    obtain ⟨m0, m1⟩ := HCS.out w2 hb2
    clear hb2 k0 k1
    go_wp2_with fail
    refine (HP3.out w2 HB2.out).mono ?_
    rintro e w3 ⟨ar, gr, cr, v, L, rfl, hnd, hir, hgr, hrow, hne, hnv, hb3⟩
    have HB3 : Hid (Below W.heap.size W w3) := HB2.out.trans (hb3.mono HB2.out.size)
    have HB4 : Hid (Below w2.heap.size w2 w3) := hb3
    have HIR : Hid (Ints w3 ar gr pr ∧ w2.heap.size ≤ gr) := ⟨hir, hgr⟩
    have HRW : Hid (RowE w3 w2.heap.size v L) := hrow
    have HNE : Hid (v.ownBlock ≠ some gr ∧ ∀ x ∈ L, x.1 ≠ gr) := ⟨hne, hnv⟩
    obtain ⟨av, gv, cv, rfl, _, _⟩ := hrow.shape
    obtain ⟨q0, f0⟩ := HR.out w3 HB3.out 0 (by omega)
    obtain ⟨q1, f1⟩ := HR.out w3 HB3.out 1 (by omega)
    have HP : Hid (∀ x0 x1, _) := pair_set q0 q1
    clear hir hgr hrow hne hnv hb3 m0 m1
    go_wp2
    refine bodyPost_ret (v := .agg #[.slice ar pr.length cr, .slice av L.length cv]) ?_ rfl ?_
    · obtain ⟨e0, e1⟩ := HP.out (.slice ar pr.length cr) (.slice av L.length cv)
      simp [results, Try.results23, go_sem, e0, e1]
    · subst hnd
      exact pans_up HIR.out.1 HIR.out.2 HRW.out HNE.out.1 HNE.out.2 HB4.out (HB0.out.trans (HB2.out.mono HB0.out.size)) (by have := HSZ.out; have := HB2.out.size; omega)
end Go.Proofs.Ythjfgibflbbgmaa.gs
