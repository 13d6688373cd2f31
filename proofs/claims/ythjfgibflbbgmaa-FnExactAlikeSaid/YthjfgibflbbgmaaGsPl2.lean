/-
  A plain graph, by the program.
-/
import Derived.Test.YthjfgibflbbgmaaGsPl1
namespace Go.Proofs.Ythjfgibflbbgmaa.gs
open Go.RowKit
open kinds ints obj ref gr cl

theorem ndsE_app (L : List En) (e : En) : ndsE (L ++ [e]) = ndsE L ++ [e.2.2] := by simp [ndsE]
set_option maxHeartbeats 4000000 in
set_option maxRecDepth 20000 in
theorem impl_plain_no (w : World) (a : Option Addr) (cap : Nat) (xs : List ByteArray) (b : Option Addr) (vc : Nat) (rs : List Int) (c : Option Addr) (cc : Nat) (ns : List Nd) (hn : xs.length ≤ 1048576) (hz : ∀ i (hi : i < xs.length), xs[i].size ≤ 1048576) (hrl : rs.length ≤ 1048576) (hnl : ns.length ≤ 1048576) (hl : Strs w a xs) (hr : Nums w b rs) (hg : Nodes w c ns) (hok : graphB xs rs ns = false) :
    Calls Try.prog 24 #[.slice a xs.length cap, .agg #[.slice b rs.length vc, .slice c ns.length cc]] w fun e w' => PAns [] [] w e w' := by
  obtain ⟨W, hW⟩ : ∃ W, W = (w.alloc (.cells #[.slice b rs.length vc, .slice c ns.length cc] 33)).alloc (.cells #[.slice none 0 0, .slice none 0 0] 33) := ⟨_, rfl⟩
  have HW : Hid (W = (w.alloc (.cells #[.slice b rs.length vc, .slice c ns.length cc] 33)).alloc (.cells #[.slice none 0 0, .slice none 0 0] 33)) := hW
  have hb0 : Below w.heap.size w W := by rw [hW]; exact ((Below.refl _ _).alloc (Nat.le_refl _) _).alloc (by simp) _
  have HB0 : Hid (Below w.heap.size w W) := hb0
  have hsz : W.heap.size = w.heap.size + 2 := by rw [hW]; simp
  have HSZ : Hid (W.heap.size = w.heap.size + 2) := hsz
  have k0 : W.cell? ⟨w.heap.size, 0, none⟩ = some (.slice b rs.length vc) := by rw [hW, World.cell?_alloc_past _ _ _ (by simp), World.cell?_alloc_at _ _ _ _ (by simp)]; rfl
  have k1 : W.cell? ⟨w.heap.size, 1, none⟩ = some (.slice c ns.length cc) := by rw [hW, World.cell?_alloc_past _ _ _ (by simp), World.cell?_alloc_at _ _ _ _ (by simp)]; rfl
  have r0 : ∀ j, j < 2 → W.cell? ⟨w.heap.size + 1, j, none⟩ = some (.slice none 0 0) ∧ W.frozen? ⟨w.heap.size + 1, j, none⟩ = false := fun j hj => ⟨by rw [hW, World.cell?_alloc_at _ _ _ _ (by simp)]; match j, hj with | 0, _ => rfl | 1, _ => rfl, by rw [hW, World.frozen?_alloc_at _ _ _ _ (by simp)]⟩
  have HR : Hid (∀ w', Below W.heap.size W w' → ∀ j, j < 2 → w'.cell? ⟨w.heap.size + 1, j, none⟩ = some (.slice none 0 0) ∧ w'.frozen? ⟨w.heap.size + 1, j, none⟩ = false) := fun w' h j hj => ⟨by rw [h.cell (p := ⟨w.heap.size + 1, j, none⟩) (by show w.heap.size + 1 < _; omega)]; exact (r0 j hj).1, by rw [h.frozen (p := ⟨w.heap.size + 1, j, none⟩) (by show w.heap.size + 1 < _; omega)]; exact (r0 j hj).2⟩
  have HSN : Hid (Calls _ _ _ W _) := searched_no W a cap xs b vc rs c cc ns hn hz hrl hnl (hl.below hb0) (hr.below hb0) (hg.below hb0) hok
  clear hW hb0 hsz r0 hl hr hg hok hn hz hrl hnl
  go_enter Try.func24, Try.ntmps24
  go_wp2_with (rw [← HW.out])
  refine HSN.out.mono ?_
  rintro e w2 ⟨rfl, hb2⟩
  obtain ⟨Y, hY⟩ : ∃ Y, Y = w2.alloc (.cells #[.slice none 0 0, .slice none 0 0, .slice none 0 0] 60) := ⟨_, rfl⟩
  obtain ⟨yb, hyb⟩ : ∃ y, y = w2.heap.size := ⟨_, rfl⟩
  have HY : Hid (Y = w2.alloc (.cells #[.slice none 0 0, .slice none 0 0, .slice none 0 0] 60)) := hY
  have HYB : Hid (yb = w2.heap.size) := hyb
  have hbY : Below w2.heap.size w2 Y := by rw [hY]; exact (Below.refl _ _).alloc (Nat.le_refl _) _
  have HWY : Hid (Below W.heap.size W Y) := hb2.trans (hbY.mono hb2.size)
  have y0 : Y.cell? ⟨yb, 0, none⟩ = some (.slice none 0 0) := by rw [hY, hyb, World.cell?_alloc_new]; rfl
  have y2 : Y.cell? ⟨yb, 2, none⟩ = some (.slice none 0 0) := by rw [hY, hyb, World.cell?_alloc_new]; rfl
  have hyl : yb < Y.heap.size := World.block_lt_of_cell? Y _ y0
  have HY2 : Hid (∀ w', Below Y.heap.size Y w' → w'.cell? ⟨yb, 2, none⟩ = some (.slice none 0 0)) := fun w' h => by rw [h.cell (p := ⟨yb, 2, none⟩) hyl]; exact y2
  have HNU : Hid (Calls _ _ _ Y _) := numbers_any Y none 0 0 0 [] [] [] rfl (by omega) (fun p hp => by cases hp) rfl (fun k hk => by cases hk) (fun j hj => by omega)
  clear hb2 k0 k1 hY hyb hbY hyl y2
  go_wp2_with fail
  first | (rw [← HY.out, ← HYB.out]) | (rw [← HY.out])
  try rw [← HYB.out]
  go_wp2_with fail
  refine HNU.out.mono ?_
  rintro e w3 ⟨ra, rg, rc, rfl, hrg, hri, hb3⟩
  obtain ⟨rg, hri, hrg, hrl⟩ := ints_near hri hrg hb3.size
  have h0 : (([] : List Int).map (newR [])).length = 0 := rfl
  rw [h0]
  clear h0
  obtain ⟨Z, hZ⟩ : ∃ Z, Z = w3.alloc (.cells #[.slice ra 0 rc, .slice none 0 0] 33) := ⟨_, rfl⟩
  obtain ⟨zb, hzb⟩ : ∃ z, z = w3.heap.size := ⟨_, rfl⟩
  have HZ : Hid (Z = w3.alloc (.cells #[.slice ra 0 rc, .slice none 0 0] 33)) := hZ
  have HZB : Hid (zb = w3.heap.size) := hzb
  have hbZ : Below w3.heap.size w3 Z := by rw [hZ]; exact (Below.refl _ _).alloc (Nat.le_refl _) _
  have HYZ : Hid (Below Y.heap.size Y Z) := hb3.trans (hbZ.mono hb3.size)
  have HWZ : Hid (Below W.heap.size W Z) := HWY.out.trans (HYZ.out.mono HWY.out.size)
  have z0 : Z.cell? ⟨zb, 0, none⟩ = some (.slice ra 0 rc) := by rw [hZ, hzb, World.cell?_alloc_new]; rfl
  have z1 : Z.cell? ⟨zb, 1, none⟩ = some (.slice none 0 0) := by rw [hZ, hzb, World.cell?_alloc_new]; rfl
  have y2 := HY2.out Z HYZ.out
  clear hrg hri hb3 hZ hzb hbZ hrl y0
  go_wp2_with (first | (rw [← HZ.out, ← HZB.out]) | (rw [← HZ.out]))
  go_loopw [23] (fun i wr => i = .int .i64 0 ∧ wr = Z) (fun i _ => 0)
  case atStart => exact ⟨rfl, rfl⟩
  case round =>
    obtain ⟨rfl, rfl⟩ := hrel
    obtain ⟨q0, f0⟩ := HR.out wr HWZ.out 0 (by omega)
    obtain ⟨q1, f1⟩ := HR.out wr HWZ.out 1 (by omega)
    have HP : Hid (∀ x0 x1, _) := pair_set q0 q1
    have HBE : Hid (∀ x0 x1, Below w.heap.size w ((wr.setCell ⟨w.heap.size + 1, 0, none⟩ x0).setCell ⟨w.heap.size + 1, 1, none⟩ x1)) := fun x0 x1 => ((HB0.out.trans (HWZ.out.mono HB0.out.size)).setCell (p := ⟨w.heap.size + 1, 0, none⟩) (by show w.heap.size ≤ w.heap.size + 1; omega) _).setCell (p := ⟨w.heap.size + 1, 1, none⟩) (by show w.heap.size ≤ w.heap.size + 1; omega) _
    go_wp2
    refine bodyPost_ret (v := .agg #[.slice ra 0 rc, .slice none 0 0]) ?_ rfl ⟨ra, w.heap.size, rc, .slice none 0 0, [], rfl, rfl, (fun i hi => by cases hi), Nat.le_refl _, RowE.nil _ _, (fun q => by cases q), (fun x hx => by cases hx), HBE.out _ _⟩
    obtain ⟨e0, e1⟩ := HP.out (.slice ra 0 rc) (.slice none 0 0)
    simp [results, Try.results24, go_sem, e0, e1]
set_option linter.unusedSimpArgs false in
set_option maxHeartbeats 8000000 in
set_option maxRecDepth 20000 in
theorem impl_plain_yes (w : World) (a : Option Addr) (cap : Nat) (xs : List ByteArray) (b : Option Addr) (vc : Nat) (rs : List Int) (c : Option Addr) (cc : Nat) (ns : List Nd) (hn : xs.length ≤ 1048576) (hz : ∀ i (hi : i < xs.length), xs[i].size ≤ 1048576) (hl : Strs w a xs) (hr : Nums w b rs) (hg : Nodes w c ns) (hok : graphB xs rs ns = true) :
    Calls Try.prog 24 #[.slice a xs.length cap, .agg #[.slice b rs.length vc, .slice c ns.length cc]] w fun e w' => PAns (rs.map (newR (foundG xs rs ns))) (plainK xs ns (foundG xs rs ns) (foundG xs rs ns).length) w e w' := by
  obtain ⟨htp, h40, h400, hin, hnd⟩ := graph_facts hok
  obtain ⟨hfn, hfg⟩ := foundG_good hin hnd
  have hf4 := good_len hfn hfg
  obtain ⟨W, hW⟩ : ∃ W, W = (w.alloc (.cells #[.slice b rs.length vc, .slice c ns.length cc] 33)).alloc (.cells #[.slice none 0 0, .slice none 0 0] 33) := ⟨_, rfl⟩
  have HW : Hid (W = (w.alloc (.cells #[.slice b rs.length vc, .slice c ns.length cc] 33)).alloc (.cells #[.slice none 0 0, .slice none 0 0] 33)) := hW
  have hb0 : Below w.heap.size w W := by rw [hW]; exact ((Below.refl _ _).alloc (Nat.le_refl _) _).alloc (by simp) _
  have HB0 : Hid (Below w.heap.size w W) := hb0
  have hsz : W.heap.size = w.heap.size + 2 := by rw [hW]; simp
  have HSZ : Hid (W.heap.size = w.heap.size + 2) := hsz
  have k0 : W.cell? ⟨w.heap.size, 0, none⟩ = some (.slice b rs.length vc) := by rw [hW, World.cell?_alloc_past _ _ _ (by simp), World.cell?_alloc_at _ _ _ _ (by simp)]; rfl
  have k1 : W.cell? ⟨w.heap.size, 1, none⟩ = some (.slice c ns.length cc) := by rw [hW, World.cell?_alloc_past _ _ _ (by simp), World.cell?_alloc_at _ _ _ _ (by simp)]; rfl
  have r0 : ∀ j, j < 2 → W.cell? ⟨w.heap.size + 1, j, none⟩ = some (.slice none 0 0) ∧ W.frozen? ⟨w.heap.size + 1, j, none⟩ = false := fun j hj => ⟨by rw [hW, World.cell?_alloc_at _ _ _ _ (by simp)]; match j, hj with | 0, _ => rfl | 1, _ => rfl, by rw [hW, World.frozen?_alloc_at _ _ _ _ (by simp)]⟩
  have HR : Hid (∀ w', Below W.heap.size W w' → ∀ j, j < 2 → w'.cell? ⟨w.heap.size + 1, j, none⟩ = some (.slice none 0 0) ∧ w'.frozen? ⟨w.heap.size + 1, j, none⟩ = false) := fun w' h j hj => ⟨by rw [h.cell (p := ⟨w.heap.size + 1, j, none⟩) (by show w.heap.size + 1 < _; omega)]; exact (r0 j hj).1, by rw [h.frozen (p := ⟨w.heap.size + 1, j, none⟩) (by show w.heap.size + 1 < _; omega)]; exact (r0 j hj).2⟩
  have HSY : Hid (Calls _ _ _ W _) := searched_yes W a cap xs b vc rs c cc ns hn hz (hl.below hb0) (hr.below hb0) (hg.below hb0) hok
  have HST : Hid (∀ w', Below w.heap.size w w' → Strs w' a xs) := fun w' h => hl.below h
  have HNF : Hid (∀ i (hi : i < ns.length), _) := fun i hi => node_fits htp hnd hi
  have HNR : Hid (∀ i (hi : i < ns.length), allIn ns.length (nmA xs ns[i]) = true) := fun i hi => node_refs hnd hi
  have HIN : Hid (allIn ns.length rs = true) := hin
  have HFG : Hid (∀ p ∈ foundG xs rs ns, GoodG ns.length p) := hfg
  obtain ⟨F, hF⟩ : ∃ F, F = foundG xs rs ns := ⟨_, rfl⟩
  have HFE : Hid (F = foundG xs rs ns) := hF
  rw [← hF] at HFG hf4 ⊢
  clear hF hW hb0 hsz r0 hl hr hg hok hn hz htp hin hnd hfn hfg
  go_enter Try.func24, Try.ntmps24
  go_wp2_with (rw [← HW.out])
  refine HSY.out.mono ?_
  rintro e w2 ⟨bs, va, sh, FF, sb, vf, a0, c0, a1, c1, rfl, hsr, hs0, _, hva, hb2⟩
  obtain ⟨af, cf, rfl, hrow⟩ := hsr.shape
  rw [← HFE.out] at hsr hrow ⊢
  obtain ⟨Y, hY⟩ : ∃ Y, Y = w2.alloc (.cells #[.slice a0 rs.length c0, .slice a1 ns.length c1, .slice af F.length cf] 60) := ⟨_, rfl⟩
  obtain ⟨yb, hyb⟩ : ∃ y, y = w2.heap.size := ⟨_, rfl⟩
  have HY : Hid (Y = w2.alloc (.cells #[.slice a0 rs.length c0, .slice a1 ns.length c1, .slice af F.length cf] 60)) := hY
  have HYB : Hid (yb = w2.heap.size) := hyb
  have hbY : Below w2.heap.size w2 Y := by rw [hY]; exact (Below.refl _ _).alloc (Nat.le_refl _) _
  have HWY : Hid (Below w.heap.size w Y) := HB0.out.trans ((hb2.trans (hbY.mono hb2.size)).mono HB0.out.size)
  have HWW : Hid (Below W.heap.size W Y) := hb2.trans (hbY.mono hb2.size)
  have y0 : Y.cell? ⟨yb, 0, none⟩ = some (.slice a0 rs.length c0) := by rw [hY, hyb, World.cell?_alloc_new]; rfl
  have y2 : Y.cell? ⟨yb, 2, none⟩ = some (.slice af F.length cf) := by rw [hY, hyb, World.cell?_alloc_new]; rfl
  have hyl : yb < Y.heap.size := World.block_lt_of_cell? Y _ y0
  have HY2 : Hid (∀ w', Below Y.heap.size Y w' → w'.cell? ⟨yb, 2, none⟩ = some (.slice af F.length cf)) := fun w' h => by rw [h.cell (p := ⟨yb, 2, none⟩) hyl]; exact y2
  have HNOD : Hid (∀ w', Below Y.heap.size Y w' → ∀ k (hk : k < F.length), ∃ g, af = some ⟨g, 0, none⟩ ∧ w'.cell? ⟨g, k, none⟩ = some (ptr (bs.getD F[k].toNat 0))) := fun w' h k hk => by
    obtain ⟨g, e, hc⟩ := hrow k hk
    have hb9 : Below w2.heap.size w2 w' := hbY.trans (h.mono hbY.size)
    exact ⟨g, e, by rw [hb9.cell (p := ⟨g, k, none⟩) (World.block_lt_of_cell? w2 _ hc)]; exact hc⟩
  have HSRY : Hid (∀ w', Below Y.heap.size Y w' → Sr xs rs ns bs va sh (W.heap.size + 2) FF sb (.slice af F.length cf) F w') := fun w' h => hsr.quiet (hbY.trans (h.mono hbY.size))
  have hsrY := HSRY.out Y (Below.refl _ _)
  have HNU : Hid (Calls _ _ _ Y _) := numbers_any Y a0 rs.length c0 ns.length bs F rs rfl (by omega) HFG.out HIN.out (fun k hk => by
    obtain ⟨g, e, _, hF, _, hc⟩ := (hs0.kept (Kp.below (hbY.mono hsr.siz))) k hk
    exact ⟨g, e, hc⟩) (fun j hj => (hsrY.at' j hj).c3)
  have HVA : Hid (∀ j (hj : j < ns.length), ∃ ai ci, va j = .slice ai ns[j].2.length ci ∧ ∀ w'', Below W.heap.size W w'' → Nums w'' ai ns[j].2) := hva
  clear hb2 k0 k1 hY hyb hbY hyl y2 hsr hs0 hva hrow hsrY
  go_wp2_with (first | (rw [← HY.out, ← HYB.out]) | (rw [← HY.out]))
  refine HNU.out.mono ?_
  rintro e w3 ⟨ra, rg, rc, rfl, hrg, hri, hb3⟩
  obtain ⟨rg, hri, hrg, hrl⟩ := ints_near hri hrg hb3.size
  rw [List.length_map]
  obtain ⟨Z, hZ⟩ : ∃ Z, Z = w3.alloc (.cells #[.slice ra rs.length rc, .slice none 0 0] 33) := ⟨_, rfl⟩
  obtain ⟨zb, hzb⟩ : ∃ z, z = w3.heap.size := ⟨_, rfl⟩
  have HZ : Hid (Z = w3.alloc (.cells #[.slice ra rs.length rc, .slice none 0 0] 33)) := hZ
  have HZB : Hid (zb = w3.heap.size) := hzb
  have hbZ : Below w3.heap.size w3 Z := by rw [hZ]; exact (Below.refl _ _).alloc (Nat.le_refl _) _
  have hZs : Z.heap.size = w3.heap.size + 1 := by rw [hZ]; simp
  have HYZ : Hid (Below Y.heap.size Y Z) := hb3.trans (hbZ.mono hb3.size)
  have HYN : Hid (Y.heap.size ≤ zb) := by have := hb3.size; show Y.heap.size ≤ zb; omega
  have HPB : Hid (PB Z.heap.size zb (.slice ra rs.length rc) (.slice none 0 0) [] Z) := ⟨by rw [hZ, hzb, World.cell?_alloc_new]; rfl, by rw [hZ, hzb, World.cell?_alloc_new]; rfl, fun j => by rw [hZ, hzb]; exact World.frozen?_alloc_new _ _ _ _, RowE.nil _ _, by omega, Nat.le_refl _⟩
  have HRI : Hid (Ints Z ra rg (rs.map (newR F))) := hri.below hbZ
  have HRG : Hid (Y.heap.size ≤ rg ∧ rg ≤ zb ∧ zb < Z.heap.size ∧ (0 < rs.length → rg < zb)) := ⟨hrg, by omega, by omega, fun h0 => by have := hri.lt (by rw [List.length_map]; exact h0); omega⟩
  have y2 := HY2.out Z HYZ.out
  clear hrg hri hb3 hZ hzb hbZ hrl y0 hZs
  go_wp2_with (first | (rw [← HZ.out, ← HZB.out]) | (rw [← HZ.out]))
  go_loopw [23] (fun i wr => ∃ (k : Nat) (L : List En) (v : Value), k ≤ F.length ∧ i = .int .i64 (k : Int) ∧ ndsE L = plainK xs ns F k ∧ PB Z.heap.size zb (.slice ra rs.length rc) v L wr ∧ Below zb Z wr) (fun i _ => F.length - (intOf i).toNat)
  case atStart => exact ⟨0, [], _, Nat.zero_le _, rfl, rfl, HPB.out, Below.refl _ _⟩
  case round =>
    clear y2 HY HYB HZ HZB HPB HNU
    obtain ⟨k, L, v, hk, rfl, hnds, hpb, hb⟩ := hrel
    have HPB : Hid (PB Z.heap.size zb (.slice ra rs.length rc) v L wr) := hpb
    have HB : Hid (Below zb Z wr) := hb
    have HYR : Hid (Below Y.heap.size Y wr) := HYZ.out.trans (hb.mono HYN.out)
    have HND : Hid (ndsE L = plainK xs ns F k) := hnds
    have hLk : L.length = k := by rw [← ndsE_len, hnds, plainK_len]
    have HLK : Hid (L.length = k) := hLk
    clear hpb hb hnds hLk
    by_cases hlt : k < F.length
    · have hlti : (k : Int) < (F.length : Int) := by omega
      have hk0 : (0 : Int) ≤ (k : Int) := by omega
      have hk4 : k ≤ 400 := by omega
      have HKN : Hid (k < F.length) := hlt
      obtain ⟨ng, rfl, e5⟩ := HNOD.out wr HYR.out k hlt
      have hgr := HFG.out _ (List.getElem_mem hlt)
      have HPK : Hid (plainK xs ns F (k + 1) = plainK xs ns F k ++ [newN xs F (ns.getD (F.getD k 0).toNat (0, []))]) := rfl
      have hgd : F.getD k 0 = F[k] := by rw [List.getD_eq_getElem?_getD, List.getElem?_eq_getElem hlt]; rfl
      rw [hgd] at HPK
      generalize F[k] = p at e5 hgr HPK
      obtain ⟨p0, pn⟩ := hgr
      obtain ⟨i, rfl⟩ := Int.eq_ofNat_of_zero_le p0
      have hin : i < ns.length := by omega
      rw [Int.toNat_natCast, nd_at hin] at HPK
      rw [Int.toNat_natCast] at e5
      obtain ⟨q, hq1, hql, hkd, hvl, h23, h1, hty⟩ := HNF.out i hin
      obtain ⟨ai, ci, hvi, hnu⟩ := HVA.out i hin
      have hsr := HSRY.out wr HYR.out
      obtain ⟨an, cn, e2, hst⟩ := hsr.nm i hin
      have hnc := hsr.at' i hin
      have e0 := hnc.c0
      have e1 := hnc.c1
      rw [hq1] at e0
      rw [hvi] at e1
      have hnm : nmA xs ns[i] = refsL xs[q] ns[i].2 ns[i].2.length := by unfold nmA; rw [hkd]
      have hin2 := HNR.out i hin
      have hll := refsL_len xs[q] ns[i].2 ns[i].2.length
      have hnw : newN xs F ns[i] = ((q : Int), fwdL (newR F) xs[q] ns[i].2 ns[i].2.length) := by unfold newN; rw [hkd, hq1]
      rw [hnw] at HPK
      rw [hnm] at e2 hst hin2
      generalize hRL : refsL xs[q] ns[i].2 ns[i].2.length = RL at e2 hst hin2 hll
      have HST4 : Hid (∀ w', Below wr.heap.size wr w' → ∀ j (hj : j < RL.length), ∃ g, an = some ⟨g, 0, none⟩ ∧ w'.cell? ⟨g, j, none⟩ = some (ptrOf bs RL[j])) := fun w' h j hj => by
        obtain ⟨g, e, _, hF, _, hc⟩ := (hst.kept (Kp.below (h.mono hsr.siz))) j hj
        exact ⟨g, e, hc⟩
      have HNC3 : Hid (∀ w', Below wr.heap.size wr w' → ∀ j (hj : j < ns.length), _) := fun w' h j hj => ((hsr.quiet h).at' j hj).c3
      have HIN2 : Hid (allIn ns.length RL = true) := hin2
      have HNO : Hid (∀ w', Below wr.heap.size wr w' → Calls _ _ _ w' _) := fun w' h => numbers_any w' an RL.length cn ns.length bs F RL rfl (by omega) HFG.out HIN2.out (HST4.out w' h) (HNC3.out w' h)
      have HBW : Hid (∀ w', Below wr.heap.size wr w' → Below W.heap.size W w') := fun w' h => (HWW.out.trans (HYR.out.mono HWW.out.size)).trans (h.mono (Nat.le_trans HWW.out.size HYR.out.size))
      clear hnc hnm hin2 hnw hkd hvi hty hsr hst hll
      generalize ns[i] = nd at e1 HPK hvl h23 h1 hnu hRL hq1
      obtain ⟨t, vs⟩ := nd
      have hq2 : t = (q : Int) := hq1
      subst hq2
      dsimp only at e1 HPK hvl h23 h1 hnu hRL
      have HWF : Hid (∀ (w' : World) (c' : Option Addr) (cc' : Nat), Below wr.heap.size wr w' → Nums w' c' ((refsL xs[q] vs vs.length).map (newR F)) → Calls _ _ _ w' _) := fun w' c' cc' h hc => withRefs_any w' a cap xs q ai ci vs (newR F) c' cc' (HST.out w' (HB0.out.trans ((HBW.out w' h).mono HB0.out.size))) hql hvl h23 h1 (hnu w' (HBW.out w' h)) hc
      have hnv := fwdL_len (newR F) xs[q] vs vs.length
      generalize fwdL (newR F) xs[q] vs vs.length = nv at HPK HWF hnv
      rw [hRL] at HWF
      generalize RL.map (newR F) = R2 at HNO HWF
      generalize RL.length = nl at e2 HNO
      generalize vs.length = vl at e1 HWF hnv h1 h23
      subst hnv
      have HNV : Hid (0 < nv.length) := by show 0 < nv.length; omega
      have HNY : Hid (bs.getD i 0 < Y.heap.size) := World.block_lt_of_cell? Y _ ((HSRY.out Y (Below.refl _ _)).at' i hin).c0
      generalize bs.getD i 0 = nb at e5 e0 e1 e2 HNY
      have e7 : wr.cell? ⟨ng, k, none⟩ = some (.pointer (some ⟨nb, 0, none⟩)) := e5
      have e3 := HPB.out.c1
      have e4 := HPB.out.fz 1
      have HCK : Hid (∀ w', Below wr.heap.size wr w' → w'.cell? ⟨nb, 0, none⟩ = some (.int .i64 (q : Int)) ∧ w'.cell? ⟨nb, 1, none⟩ = some (.slice ai nv.length ci) ∧ w'.cell? ⟨nb, 2, none⟩ = some (.slice an nl cn) ∧ w'.cell? ⟨zb, 1, none⟩ = some v ∧ w'.frozen? ⟨zb, 1, none⟩ = false) := fun w' h =>
        ⟨by rw [h.cell (p := ⟨nb, 0, none⟩) (World.block_lt_of_cell? wr _ e0)]; exact e0, by rw [h.cell (p := ⟨nb, 1, none⟩) (World.block_lt_of_cell? wr _ e1)]; exact e1, by rw [h.cell (p := ⟨nb, 2, none⟩) (World.block_lt_of_cell? wr _ e2)]; exact e2, by rw [h.cell (p := ⟨zb, 1, none⟩) (World.block_lt_of_cell? wr _ e3)]; exact e3, by rw [h.frozen (p := ⟨zb, 1, none⟩) (World.block_lt_of_cell? wr _ e3)]; exact e4⟩
      have hacc : Below wr.heap.size wr wr.drew := (Below.refl _ _).drew
      have HLE : Hid (L.length ≤ 1048576) := by have := HLK.out; show L.length ≤ _; omega
      have HCE : Hid (∀ w' : World, w'.heap[nb]? = wr.heap[nb]? → w'.cell? ⟨nb, 0, none⟩ = some (.int .i64 (q : Int)) ∧ w'.cell? ⟨nb, 1, none⟩ = some (.slice ai nv.length ci) ∧ w'.cell? ⟨nb, 2, none⟩ = some (.slice an nl cn)) := fun w' h => ⟨by rw [World.cell?_of_block (a := ⟨nb, 0, none⟩) h]; exact e0, by rw [World.cell?_of_block (a := ⟨nb, 1, none⟩) h]; exact e1, by rw [World.cell?_of_block (a := ⟨nb, 2, none⟩) h]; exact e2⟩
      have HNW : Hid (nb < wr.heap.size) := World.block_lt_of_cell? wr _ e0
      have HKB : Hid (∀ w' : World, Below wr.heap.size wr w' → w'.heap[nb]? = wr.heap[nb]?) := fun w' h => h.block nb HNW.out
      have HNV6 : Hid (some nb ≠ v.ownBlock) := fun q => by have := (HPB.out.row.row.lt nb q.symm).1; have := HNY.out; have := HRG.out; omega
      have HSET : Hid (∀ (w6 : World) (x : Value), w6.heap[nb]? = wr.heap[nb]? → (w6.setCell ⟨zb, 1, none⟩ x).heap[nb]? = wr.heap[nb]?) := fun w6 x h => by rw [Below.heap_setCell w6 ⟨zb, 1, none⟩ x nb (fun e => by have e2 : nb = zb := e; have := HNY.out; have := HRG.out; omega)]; exact h
      clear hq1 hql hvl hnu hgd p0 pn e5 h1 h23 hRL HST4 HNC3 HIN2
      go_wp2_with fail
      --@region6
      refine wp_region_held_drew (S := fun w' => w'.heap[nb]? = wr.heap[nb]?) (by kernel_rfl) (HKB.out _ hacc) (fun hH => ?_)
      refine wpAnyH_take (i := 0) (oi := { dst := some 27, op := Op.fieldAddr 33 (Operand.tmp 7) 1, type := 0, pos := "l07_graphs.go:71", after := #[], guard := none }) (v := .pointer (some ⟨zb, 1, none⟩)) rfl (by kernel_rfl) (by kernel_rfl) (by kernel_rfl) (fun _ _ _ h => h) (Or.inl ⟨by rfl, fun w _ => by go_simp⟩) hH ?_
      simp only [Act.put, List.setIfInBounds_toArray, List.set_cons_zero, List.set_cons_succ]
      refine wpAnyH_take (i := 2) (oi := { dst := some 29, op := Op.move (Operand.tmp 0), type := 22, pos := "l07_graphs.go:71", after := #[], guard := none }) (v := .slice a xs.length cap) rfl (by kernel_rfl) (by kernel_rfl) (by kernel_rfl) (fun _ _ _ h => h) (Or.inl ⟨by rfl, fun w _ => by go_simp⟩) hH ?_
      simp only [Act.put, List.setIfInBounds_toArray, List.set_cons_zero, List.set_cons_succ]
      refine wpAnyH_take (i := 3) (oi := { dst := some 30, op := Op.move (Operand.tmp 9), type := 63, pos := "l07_graphs.go:71", after := #[], guard := none }) (v := .pointer (some ⟨nb, 0, none⟩)) rfl (by kernel_rfl) (by kernel_rfl) (by kernel_rfl) (fun _ _ _ h => h) (Or.inl ⟨by rfl, fun w _ => by go_simp⟩) hH ?_
      simp only [Act.put, List.setIfInBounds_toArray, List.set_cons_zero, List.set_cons_succ]
      refine wpAnyH_take (i := 4) (oi := { dst := some 31, op := Op.nilCheck (Operand.tmp 30), type := 0, pos := "l07_graphs.go:71", after := #[{ on := 3, ground := Ground.data }], guard := none }) (v := .pointer (some ⟨nb, 0, none⟩)) rfl (by kernel_rfl) (by kernel_rfl) (by kernel_rfl) (fun _ _ _ h => h) (Or.inl ⟨by rfl, fun w _ => by go_simp⟩) hH ?_
      simp only [Act.put, List.setIfInBounds_toArray, List.set_cons_zero, List.set_cons_succ]
      refine wpAnyH_take (i := 5) (oi := { dst := some 32, op := Op.fieldAddr 65 (Operand.tmp 31) 0, type := 0, pos := "l07_graphs.go:71", after := #[{ on := 4, ground := Ground.data }], guard := none }) (v := .pointer (some ⟨nb, 0, none⟩)) rfl (by kernel_rfl) (by kernel_rfl) (by kernel_rfl) (fun _ _ _ h => h) (Or.inl ⟨by rfl, fun w _ => by go_simp⟩) hH ?_
      simp only [Act.put, List.setIfInBounds_toArray, List.set_cons_zero, List.set_cons_succ]
      refine wpAnyH_take (i := 6) (oi := { dst := some 33, op := Op.load 53 (Operand.tmp 32), type := 53, pos := "l07_graphs.go:71", after := #[{ on := 5, ground := Ground.data }], guard := none }) (v := .agg #[.int .i64 (q : Int), .slice ai nv.length ci]) rfl (by kernel_rfl) (by kernel_rfl) (by kernel_rfl) (fun _ _ _ h => h) (Or.inl ⟨by rfl, fun w hSw => by obtain ⟨s0, s1, s2⟩ := HCE.out w hSw; go_simp⟩) hH ?_
      simp only [Act.put, List.setIfInBounds_toArray, List.set_cons_zero, List.set_cons_succ]
      refine wpAnyH_take (i := 7) (oi := { dst := some 34, op := Op.move (Operand.tmp 9), type := 63, pos := "l07_graphs.go:71", after := #[], guard := none }) (v := .pointer (some ⟨nb, 0, none⟩)) rfl (by kernel_rfl) (by kernel_rfl) (by kernel_rfl) (fun _ _ _ h => h) (Or.inl ⟨by rfl, fun w _ => by go_simp⟩) hH ?_
      simp only [Act.put, List.setIfInBounds_toArray, List.set_cons_zero, List.set_cons_succ]
      refine wpAnyH_take (i := 8) (oi := { dst := some 35, op := Op.nilCheck (Operand.tmp 34), type := 0, pos := "l07_graphs.go:71", after := #[{ on := 7, ground := Ground.data }], guard := none }) (v := .pointer (some ⟨nb, 0, none⟩)) rfl (by kernel_rfl) (by kernel_rfl) (by kernel_rfl) (fun _ _ _ h => h) (Or.inl ⟨by rfl, fun w _ => by go_simp⟩) hH ?_
      simp only [Act.put, List.setIfInBounds_toArray, List.set_cons_zero, List.set_cons_succ]
      refine wpAnyH_take (i := 9) (oi := { dst := some 36, op := Op.fieldAddr 65 (Operand.tmp 35) 1, type := 0, pos := "l07_graphs.go:71", after := #[{ on := 8, ground := Ground.data }], guard := none }) (v := .pointer (some ⟨nb, 2, none⟩)) rfl (by kernel_rfl) (by kernel_rfl) (by kernel_rfl) (fun _ _ _ h => h) (Or.inl ⟨by rfl, fun w _ => by go_simp⟩) hH ?_
      simp only [Act.put, List.setIfInBounds_toArray, List.set_cons_zero, List.set_cons_succ]
      refine wpAnyH_take (i := 10) (oi := { dst := some 37, op := Op.load 58 (Operand.tmp 36), type := 58, pos := "l07_graphs.go:71", after := #[{ on := 9, ground := Ground.data }], guard := none }) (v := .slice an nl cn) rfl (by kernel_rfl) (by kernel_rfl) (by kernel_rfl) (fun _ _ _ h => h) (Or.inl ⟨by rfl, fun w hSw => by obtain ⟨s0, s1, s2⟩ := HCE.out w hSw; go_simp⟩) hH ?_
      simp only [Act.put, List.setIfInBounds_toArray, List.set_cons_zero, List.set_cons_succ]
      refine wpAnyH_ready (rs := [1, 11]) (by kernel_rfl) (by simp) ?_
      refine AllReadyH.cons (i := 1) (o := { dst := some 28, op := Op.load 31 (Operand.tmp 27), type := 31, pos := "l07_graphs.go:71", after := #[{ on := 0, ground := Ground.data }], guard := none }) (rs := [11]) rfl ?_ ?_
      · intro K hK
        have z1 := (HCK.out _ hacc).2.2.2.1
        go_simp
        clear z1
        refine hK.out _ _ (HKB.out _ hacc) (fun hH => ?_)
        clear hK K
        try simp only [Act.put, List.setIfInBounds_toArray, List.set_cons_zero, List.set_cons_succ]
        refine wpAnyH_ready (rs := [11]) (by kernel_rfl) (by simp) ?_
        refine AllReadyH.cons (i := 11) (o := { dst := some 38, op := Op.call { callee := Callee.value (Operand.func 48), args := #[Operand.tmp 37], argTypes := #[58] }, type := 23, pos := "l07_graphs.go:71", after := #[{ on := 10, ground := Ground.data }], guard := none }) (rs := []) rfl ?_ AllReadyH.nil
        intro K hK
        go_simp
        go_at_call 48
        refine (HNO.out _ hacc).mono ?_
        rintro e wA ⟨aA, gA, cA, rfl, hgA, hiA, hbA⟩
        have hac2 : Below wr.heap.size wr wA := hacc.trans (hbA.mono hacc.size)
        clear hacc; have hacc := hac2; clear hac2
        refine hK.out _ _ (HKB.out _ hacc) (fun hH => ?_)
        clear hK K
        try simp only [Act.put, List.setIfInBounds_toArray, List.set_cons_zero, List.set_cons_succ]
        refine wpAnyH_ready (rs := [12]) (by kernel_rfl) (by simp) ?_
        refine AllReadyH.cons (i := 12) (o := { dst := some 39, op := Op.call { callee := Callee.value (Operand.func 49), args := #[Operand.tmp 29, Operand.tmp 33, Operand.tmp 38], argTypes := #[22, 53, 23] }, type := 53, pos := "l07_graphs.go:71", after := #[{ on := 2, ground := Ground.data }, { on := 6, ground := Ground.data }, { on := 11, ground := Ground.data }, { on := 11, ground := Ground.chain }], guard := none }) (rs := []) rfl ?_ AllReadyH.nil
        intro K hK
        go_simp
        go_at_call 49
        refine (HWF.out wA aA cA hacc hiA.nums).mono ?_
        rintro e wB ⟨aB, gB, cB, rfl, hgB, hiB, hbB⟩
        obtain ⟨rfl, -, -⟩ := hiB 0 HNV.out
        have hgt : wr.heap.size ≤ gB := Nat.le_trans hacc.size hgB
        have hac2 : Below wr.heap.size wr wB := hacc.trans (hbB.mono hacc.size)
        clear hacc; have hacc := hac2; clear hac2
        have HOB : Hid (wB.ownsRow Z.heap.size 53 2 v L.length (cellsE L)) := (HPB.out.quiet hacc).row.row
        have HSB : Hid (Z.heap.size ≤ wB.heap.size) := (HPB.out.quiet hacc).siz
        refine hK.out _ _ (HKB.out _ hacc) (fun hH => ?_)
        clear hK K
        try simp only [Act.put, List.setIfInBounds_toArray, List.set_cons_zero, List.set_cons_succ]
        refine wpAnyH_ready (rs := [13]) (by kernel_rfl) (by simp) ?_
        refine AllReadyH.cons (i := 13) (o := { dst := some 40, op := Op.buildSlice 31 1 #[(0, Operand.tmp 39)], type := 31, pos := "l07_graphs.go:71", after := #[{ on := 12, ground := Ground.data }], guard := none }) (rs := []) rfl ?_ AllReadyH.nil
        intro K hK
        go_simp
        have haccB := hacc
        have hacA : Below wr.heap.size wr (wB.alloc (.cells #[.int .i64 (q : Int), .slice (some ⟨gB, 0, none⟩) nv.length cB] 53)) := hacc.alloc hacc.size _
        clear hacc; have hacc := hacA; clear hacA
        refine hK.out _ _ (HKB.out _ hacc) (fun hH => ?_)
        clear hK K
        try simp only [Act.put, List.setIfInBounds_toArray, List.set_cons_zero, List.set_cons_succ]
        refine wpAnyH_ready (rs := [14]) (by kernel_rfl) (by simp) ?_
        refine AllReadyH.cons (i := 14) (o := { dst := some 41, op := Op.call { callee := Callee.builtin Builtin.append, args := #[Operand.tmp 28, Operand.tmp 40], argTypes := #[31, 31] }, type := 31, pos := "l07_graphs.go:71", after := #[{ on := 1, ground := Ground.data }, { on := 13, ground := Ground.data }, { on := 12, ground := Ground.chain }], guard := none }) (rs := []) rfl ?_ AllReadyH.nil
        intro K hK
        refine step_pushO wB (by rfl) _ _ (by rfl) Z.heap.size v L.length (cellsE L) (q : Int) gB nv.length cB HOB.out (by rfl) (by rfl) HLE.out HSB.out ?_
        intro g6 c6 w6 hown6 hgw6 hb6 hat6
        obtain ⟨⟨k6, f6⟩, hpb6, hbw6⟩ := HPB.out.pushed (e := (gB, cB, ((q : Int), nv))) haccB hiB hgt (hiB.lt HNV.out) hown6 hgw6 hat6
        have HP6 : Hid (PB _ _ _ _ _ _) := hpb6
        have HW6 : Hid (Below _ _ _) := hbw6
        have HS6 : Hid (w6.heap[nb]? = wr.heap[nb]?) := (hgw6.block nb (Nat.lt_of_lt_of_le HNW.out haccB.size) HNV6.out).trans (HKB.out _ haccB)
        clear hown6 hgw6 hb6 hat6 hpb6 hbw6
        refine hK.out _ _ (HS6.out) (fun hH => ?_)
        clear hK K
        try simp only [Act.put, List.setIfInBounds_toArray, List.set_cons_zero, List.set_cons_succ]
        refine wpAnyH_take (i := 15) (oi := { dst := some 42, op := Op.fieldAddr 33 (Operand.tmp 7) 1, type := 0, pos := "l07_graphs.go:71", after := #[{ on := 0, ground := Ground.phase }, { on := 1, ground := Ground.phase }, { on := 2, ground := Ground.phase }, { on := 3, ground := Ground.phase }, { on := 4, ground := Ground.phase }, { on := 5, ground := Ground.phase }, { on := 6, ground := Ground.phase }, { on := 7, ground := Ground.phase }, { on := 8, ground := Ground.phase }, { on := 9, ground := Ground.phase }, { on := 10, ground := Ground.phase }, { on := 11, ground := Ground.phase }, { on := 12, ground := Ground.phase }, { on := 13, ground := Ground.phase }, { on := 14, ground := Ground.phase }], guard := none }) (v := .pointer (some ⟨zb, 1, none⟩)) rfl (by kernel_rfl) (by kernel_rfl) (by kernel_rfl) (fun _ _ _ h => h) (Or.inl ⟨by rfl, fun w _ => by go_simp⟩) hH ?_
        simp only [Act.put, List.setIfInBounds_toArray, List.set_cons_zero, List.set_cons_succ]
        refine wpAnyH_ready (rs := [16]) (by kernel_rfl) (by simp) ?_
        refine AllReadyH.cons (i := 16) (o := { dst := none, op := Op.store 31 (Operand.tmp 42) (Operand.tmp 41), type := 0, pos := "l07_graphs.go:71", after := #[{ on := 15, ground := Ground.data }, { on := 14, ground := Ground.data }, { on := 14, ground := Ground.chain }, { on := 0, ground := Ground.phase }, { on := 1, ground := Ground.phase }, { on := 2, ground := Ground.phase }, { on := 3, ground := Ground.phase }, { on := 4, ground := Ground.phase }, { on := 5, ground := Ground.phase }, { on := 6, ground := Ground.phase }, { on := 7, ground := Ground.phase }, { on := 8, ground := Ground.phase }, { on := 9, ground := Ground.phase }, { on := 10, ground := Ground.phase }, { on := 11, ground := Ground.phase }, { on := 12, ground := Ground.phase }, { on := 13, ground := Ground.phase }, { on := 14, ground := Ground.phase }], guard := none }) (rs := []) rfl ?_ AllReadyH.nil
        intro K hK
        go_simp
        refine hK.out _ _ (HSET.out _ _ HS6.out) (fun hH => ?_)
        clear hK K
        try simp only [Act.put, List.setIfInBounds_toArray, List.set_cons_zero, List.set_cons_succ]
        refine wpAnyH_done (by kernel_rfl) ?_ _
        clear hH
        have HND2 : Hid (ndsE (L ++ [(gB, cB, ((q : Int), nv))]) = plainK xs ns F (k + 1)) := by show ndsE _ = _; rw [ndsE_app, HND.out, HPK.out]
        go_wp2
        go_roundw
        case rel => exact ⟨k + 1, L ++ [(gB, cB, ((q : Int), nv))], _, by have := HKN.out; omega, by go_num, HND2.out, HP6.out, HB.out.trans HW6.out⟩
        case measure => have := HKN.out; simp [intOf]; omega
      refine AllReadyH.cons (i := 11) (o := { dst := some 38, op := Op.call { callee := Callee.value (Operand.func 48), args := #[Operand.tmp 37], argTypes := #[58] }, type := 23, pos := "l07_graphs.go:71", after := #[{ on := 10, ground := Ground.data }], guard := none }) (rs := []) rfl ?_ AllReadyH.nil
      intro K hK
      go_simp
      go_at_call 48
      refine (HNO.out _ hacc).mono ?_
      rintro e wA ⟨aA, gA, cA, rfl, hgA, hiA, hbA⟩
      have hac2 : Below wr.heap.size wr wA := hacc.trans (hbA.mono hacc.size)
      clear hacc; have hacc := hac2; clear hac2
      refine hK.out _ _ (HKB.out _ hacc) (fun hH => ?_)
      clear hK K
      try simp only [Act.put, List.setIfInBounds_toArray, List.set_cons_zero, List.set_cons_succ]
      refine wpAnyH_ready (rs := [1, 12]) (by kernel_rfl) (by simp) ?_
      refine AllReadyH.cons (i := 1) (o := { dst := some 28, op := Op.load 31 (Operand.tmp 27), type := 31, pos := "l07_graphs.go:71", after := #[{ on := 0, ground := Ground.data }], guard := none }) (rs := [12]) rfl ?_ ?_
      · intro K hK
        have z1 := (HCK.out _ hacc).2.2.2.1
        go_simp
        clear z1
        refine hK.out _ _ (HKB.out _ hacc) (fun hH => ?_)
        clear hK K
        try simp only [Act.put, List.setIfInBounds_toArray, List.set_cons_zero, List.set_cons_succ]
        refine wpAnyH_ready (rs := [12]) (by kernel_rfl) (by simp) ?_
        refine AllReadyH.cons (i := 12) (o := { dst := some 39, op := Op.call { callee := Callee.value (Operand.func 49), args := #[Operand.tmp 29, Operand.tmp 33, Operand.tmp 38], argTypes := #[22, 53, 23] }, type := 53, pos := "l07_graphs.go:71", after := #[{ on := 2, ground := Ground.data }, { on := 6, ground := Ground.data }, { on := 11, ground := Ground.data }, { on := 11, ground := Ground.chain }], guard := none }) (rs := []) rfl ?_ AllReadyH.nil
        intro K hK
        go_simp
        go_at_call 49
        refine (HWF.out wA aA cA hacc hiA.nums).mono ?_
        rintro e wB ⟨aB, gB, cB, rfl, hgB, hiB, hbB⟩
        obtain ⟨rfl, -, -⟩ := hiB 0 HNV.out
        have hgt : wr.heap.size ≤ gB := Nat.le_trans hacc.size hgB
        have hac2 : Below wr.heap.size wr wB := hacc.trans (hbB.mono hacc.size)
        clear hacc; have hacc := hac2; clear hac2
        have HOB : Hid (wB.ownsRow Z.heap.size 53 2 v L.length (cellsE L)) := (HPB.out.quiet hacc).row.row
        have HSB : Hid (Z.heap.size ≤ wB.heap.size) := (HPB.out.quiet hacc).siz
        refine hK.out _ _ (HKB.out _ hacc) (fun hH => ?_)
        clear hK K
        try simp only [Act.put, List.setIfInBounds_toArray, List.set_cons_zero, List.set_cons_succ]
        refine wpAnyH_ready (rs := [13]) (by kernel_rfl) (by simp) ?_
        refine AllReadyH.cons (i := 13) (o := { dst := some 40, op := Op.buildSlice 31 1 #[(0, Operand.tmp 39)], type := 31, pos := "l07_graphs.go:71", after := #[{ on := 12, ground := Ground.data }], guard := none }) (rs := []) rfl ?_ AllReadyH.nil
        intro K hK
        go_simp
        have haccB := hacc
        have hacA : Below wr.heap.size wr (wB.alloc (.cells #[.int .i64 (q : Int), .slice (some ⟨gB, 0, none⟩) nv.length cB] 53)) := hacc.alloc hacc.size _
        clear hacc; have hacc := hacA; clear hacA
        refine hK.out _ _ (HKB.out _ hacc) (fun hH => ?_)
        clear hK K
        try simp only [Act.put, List.setIfInBounds_toArray, List.set_cons_zero, List.set_cons_succ]
        refine wpAnyH_ready (rs := [14]) (by kernel_rfl) (by simp) ?_
        refine AllReadyH.cons (i := 14) (o := { dst := some 41, op := Op.call { callee := Callee.builtin Builtin.append, args := #[Operand.tmp 28, Operand.tmp 40], argTypes := #[31, 31] }, type := 31, pos := "l07_graphs.go:71", after := #[{ on := 1, ground := Ground.data }, { on := 13, ground := Ground.data }, { on := 12, ground := Ground.chain }], guard := none }) (rs := []) rfl ?_ AllReadyH.nil
        intro K hK
        refine step_pushO wB (by rfl) _ _ (by rfl) Z.heap.size v L.length (cellsE L) (q : Int) gB nv.length cB HOB.out (by rfl) (by rfl) HLE.out HSB.out ?_
        intro g6 c6 w6 hown6 hgw6 hb6 hat6
        obtain ⟨⟨k6, f6⟩, hpb6, hbw6⟩ := HPB.out.pushed (e := (gB, cB, ((q : Int), nv))) haccB hiB hgt (hiB.lt HNV.out) hown6 hgw6 hat6
        have HP6 : Hid (PB _ _ _ _ _ _) := hpb6
        have HW6 : Hid (Below _ _ _) := hbw6
        have HS6 : Hid (w6.heap[nb]? = wr.heap[nb]?) := (hgw6.block nb (Nat.lt_of_lt_of_le HNW.out haccB.size) HNV6.out).trans (HKB.out _ haccB)
        clear hown6 hgw6 hb6 hat6 hpb6 hbw6
        refine hK.out _ _ (HS6.out) (fun hH => ?_)
        clear hK K
        try simp only [Act.put, List.setIfInBounds_toArray, List.set_cons_zero, List.set_cons_succ]
        refine wpAnyH_take (i := 15) (oi := { dst := some 42, op := Op.fieldAddr 33 (Operand.tmp 7) 1, type := 0, pos := "l07_graphs.go:71", after := #[{ on := 0, ground := Ground.phase }, { on := 1, ground := Ground.phase }, { on := 2, ground := Ground.phase }, { on := 3, ground := Ground.phase }, { on := 4, ground := Ground.phase }, { on := 5, ground := Ground.phase }, { on := 6, ground := Ground.phase }, { on := 7, ground := Ground.phase }, { on := 8, ground := Ground.phase }, { on := 9, ground := Ground.phase }, { on := 10, ground := Ground.phase }, { on := 11, ground := Ground.phase }, { on := 12, ground := Ground.phase }, { on := 13, ground := Ground.phase }, { on := 14, ground := Ground.phase }], guard := none }) (v := .pointer (some ⟨zb, 1, none⟩)) rfl (by kernel_rfl) (by kernel_rfl) (by kernel_rfl) (fun _ _ _ h => h) (Or.inl ⟨by rfl, fun w _ => by go_simp⟩) hH ?_
        simp only [Act.put, List.setIfInBounds_toArray, List.set_cons_zero, List.set_cons_succ]
        refine wpAnyH_ready (rs := [16]) (by kernel_rfl) (by simp) ?_
        refine AllReadyH.cons (i := 16) (o := { dst := none, op := Op.store 31 (Operand.tmp 42) (Operand.tmp 41), type := 0, pos := "l07_graphs.go:71", after := #[{ on := 15, ground := Ground.data }, { on := 14, ground := Ground.data }, { on := 14, ground := Ground.chain }, { on := 0, ground := Ground.phase }, { on := 1, ground := Ground.phase }, { on := 2, ground := Ground.phase }, { on := 3, ground := Ground.phase }, { on := 4, ground := Ground.phase }, { on := 5, ground := Ground.phase }, { on := 6, ground := Ground.phase }, { on := 7, ground := Ground.phase }, { on := 8, ground := Ground.phase }, { on := 9, ground := Ground.phase }, { on := 10, ground := Ground.phase }, { on := 11, ground := Ground.phase }, { on := 12, ground := Ground.phase }, { on := 13, ground := Ground.phase }, { on := 14, ground := Ground.phase }], guard := none }) (rs := []) rfl ?_ AllReadyH.nil
        intro K hK
        go_simp
        refine hK.out _ _ (HSET.out _ _ HS6.out) (fun hH => ?_)
        clear hK K
        try simp only [Act.put, List.setIfInBounds_toArray, List.set_cons_zero, List.set_cons_succ]
        refine wpAnyH_done (by kernel_rfl) ?_ _
        clear hH
        have HND2 : Hid (ndsE (L ++ [(gB, cB, ((q : Int), nv))]) = plainK xs ns F (k + 1)) := by show ndsE _ = _; rw [ndsE_app, HND.out, HPK.out]
        go_wp2
        go_roundw
        case rel => exact ⟨k + 1, L ++ [(gB, cB, ((q : Int), nv))], _, by have := HKN.out; omega, by go_num, HND2.out, HP6.out, HB.out.trans HW6.out⟩
        case measure => have := HKN.out; simp [intOf]; omega
      refine AllReadyH.cons (i := 12) (o := { dst := some 39, op := Op.call { callee := Callee.value (Operand.func 49), args := #[Operand.tmp 29, Operand.tmp 33, Operand.tmp 38], argTypes := #[22, 53, 23] }, type := 53, pos := "l07_graphs.go:71", after := #[{ on := 2, ground := Ground.data }, { on := 6, ground := Ground.data }, { on := 11, ground := Ground.data }, { on := 11, ground := Ground.chain }], guard := none }) (rs := []) rfl ?_ AllReadyH.nil
      intro K hK
      go_simp
      go_at_call 49
      refine (HWF.out wA aA cA hacc hiA.nums).mono ?_
      rintro e wB ⟨aB, gB, cB, rfl, hgB, hiB, hbB⟩
      obtain ⟨rfl, -, -⟩ := hiB 0 HNV.out
      have hgt : wr.heap.size ≤ gB := Nat.le_trans hacc.size hgB
      have hac2 : Below wr.heap.size wr wB := hacc.trans (hbB.mono hacc.size)
      clear hacc; have hacc := hac2; clear hac2
      have HOB : Hid (wB.ownsRow Z.heap.size 53 2 v L.length (cellsE L)) := (HPB.out.quiet hacc).row.row
      have HSB : Hid (Z.heap.size ≤ wB.heap.size) := (HPB.out.quiet hacc).siz
      refine hK.out _ _ (HKB.out _ hacc) (fun hH => ?_)
      clear hK K
      try simp only [Act.put, List.setIfInBounds_toArray, List.set_cons_zero, List.set_cons_succ]
      refine wpAnyH_ready (rs := [1, 13]) (by kernel_rfl) (by simp) ?_
      refine AllReadyH.cons (i := 1) (o := { dst := some 28, op := Op.load 31 (Operand.tmp 27), type := 31, pos := "l07_graphs.go:71", after := #[{ on := 0, ground := Ground.data }], guard := none }) (rs := [13]) rfl ?_ ?_
      · intro K hK
        have z1 := (HCK.out _ hacc).2.2.2.1
        go_simp
        clear z1
        refine hK.out _ _ (HKB.out _ hacc) (fun hH => ?_)
        clear hK K
        try simp only [Act.put, List.setIfInBounds_toArray, List.set_cons_zero, List.set_cons_succ]
        refine wpAnyH_ready (rs := [13]) (by kernel_rfl) (by simp) ?_
        refine AllReadyH.cons (i := 13) (o := { dst := some 40, op := Op.buildSlice 31 1 #[(0, Operand.tmp 39)], type := 31, pos := "l07_graphs.go:71", after := #[{ on := 12, ground := Ground.data }], guard := none }) (rs := []) rfl ?_ AllReadyH.nil
        intro K hK
        go_simp
        have haccB := hacc
        have hacA : Below wr.heap.size wr (wB.alloc (.cells #[.int .i64 (q : Int), .slice (some ⟨gB, 0, none⟩) nv.length cB] 53)) := hacc.alloc hacc.size _
        clear hacc; have hacc := hacA; clear hacA
        refine hK.out _ _ (HKB.out _ hacc) (fun hH => ?_)
        clear hK K
        try simp only [Act.put, List.setIfInBounds_toArray, List.set_cons_zero, List.set_cons_succ]
        refine wpAnyH_ready (rs := [14]) (by kernel_rfl) (by simp) ?_
        refine AllReadyH.cons (i := 14) (o := { dst := some 41, op := Op.call { callee := Callee.builtin Builtin.append, args := #[Operand.tmp 28, Operand.tmp 40], argTypes := #[31, 31] }, type := 31, pos := "l07_graphs.go:71", after := #[{ on := 1, ground := Ground.data }, { on := 13, ground := Ground.data }, { on := 12, ground := Ground.chain }], guard := none }) (rs := []) rfl ?_ AllReadyH.nil
        intro K hK
        refine step_pushO wB (by rfl) _ _ (by rfl) Z.heap.size v L.length (cellsE L) (q : Int) gB nv.length cB HOB.out (by rfl) (by rfl) HLE.out HSB.out ?_
        intro g6 c6 w6 hown6 hgw6 hb6 hat6
        obtain ⟨⟨k6, f6⟩, hpb6, hbw6⟩ := HPB.out.pushed (e := (gB, cB, ((q : Int), nv))) haccB hiB hgt (hiB.lt HNV.out) hown6 hgw6 hat6
        have HP6 : Hid (PB _ _ _ _ _ _) := hpb6
        have HW6 : Hid (Below _ _ _) := hbw6
        have HS6 : Hid (w6.heap[nb]? = wr.heap[nb]?) := (hgw6.block nb (Nat.lt_of_lt_of_le HNW.out haccB.size) HNV6.out).trans (HKB.out _ haccB)
        clear hown6 hgw6 hb6 hat6 hpb6 hbw6
        refine hK.out _ _ (HS6.out) (fun hH => ?_)
        clear hK K
        try simp only [Act.put, List.setIfInBounds_toArray, List.set_cons_zero, List.set_cons_succ]
        refine wpAnyH_take (i := 15) (oi := { dst := some 42, op := Op.fieldAddr 33 (Operand.tmp 7) 1, type := 0, pos := "l07_graphs.go:71", after := #[{ on := 0, ground := Ground.phase }, { on := 1, ground := Ground.phase }, { on := 2, ground := Ground.phase }, { on := 3, ground := Ground.phase }, { on := 4, ground := Ground.phase }, { on := 5, ground := Ground.phase }, { on := 6, ground := Ground.phase }, { on := 7, ground := Ground.phase }, { on := 8, ground := Ground.phase }, { on := 9, ground := Ground.phase }, { on := 10, ground := Ground.phase }, { on := 11, ground := Ground.phase }, { on := 12, ground := Ground.phase }, { on := 13, ground := Ground.phase }, { on := 14, ground := Ground.phase }], guard := none }) (v := .pointer (some ⟨zb, 1, none⟩)) rfl (by kernel_rfl) (by kernel_rfl) (by kernel_rfl) (fun _ _ _ h => h) (Or.inl ⟨by rfl, fun w _ => by go_simp⟩) hH ?_
        simp only [Act.put, List.setIfInBounds_toArray, List.set_cons_zero, List.set_cons_succ]
        refine wpAnyH_ready (rs := [16]) (by kernel_rfl) (by simp) ?_
        refine AllReadyH.cons (i := 16) (o := { dst := none, op := Op.store 31 (Operand.tmp 42) (Operand.tmp 41), type := 0, pos := "l07_graphs.go:71", after := #[{ on := 15, ground := Ground.data }, { on := 14, ground := Ground.data }, { on := 14, ground := Ground.chain }, { on := 0, ground := Ground.phase }, { on := 1, ground := Ground.phase }, { on := 2, ground := Ground.phase }, { on := 3, ground := Ground.phase }, { on := 4, ground := Ground.phase }, { on := 5, ground := Ground.phase }, { on := 6, ground := Ground.phase }, { on := 7, ground := Ground.phase }, { on := 8, ground := Ground.phase }, { on := 9, ground := Ground.phase }, { on := 10, ground := Ground.phase }, { on := 11, ground := Ground.phase }, { on := 12, ground := Ground.phase }, { on := 13, ground := Ground.phase }, { on := 14, ground := Ground.phase }], guard := none }) (rs := []) rfl ?_ AllReadyH.nil
        intro K hK
        go_simp
        refine hK.out _ _ (HSET.out _ _ HS6.out) (fun hH => ?_)
        clear hK K
        try simp only [Act.put, List.setIfInBounds_toArray, List.set_cons_zero, List.set_cons_succ]
        refine wpAnyH_done (by kernel_rfl) ?_ _
        clear hH
        have HND2 : Hid (ndsE (L ++ [(gB, cB, ((q : Int), nv))]) = plainK xs ns F (k + 1)) := by show ndsE _ = _; rw [ndsE_app, HND.out, HPK.out]
        go_wp2
        go_roundw
        case rel => exact ⟨k + 1, L ++ [(gB, cB, ((q : Int), nv))], _, by have := HKN.out; omega, by go_num, HND2.out, HP6.out, HB.out.trans HW6.out⟩
        case measure => have := HKN.out; simp [intOf]; omega
      refine AllReadyH.cons (i := 13) (o := { dst := some 40, op := Op.buildSlice 31 1 #[(0, Operand.tmp 39)], type := 31, pos := "l07_graphs.go:71", after := #[{ on := 12, ground := Ground.data }], guard := none }) (rs := []) rfl ?_ AllReadyH.nil
      intro K hK
      go_simp
      have haccB := hacc
      have hacA : Below wr.heap.size wr (wB.alloc (.cells #[.int .i64 (q : Int), .slice (some ⟨gB, 0, none⟩) nv.length cB] 53)) := hacc.alloc hacc.size _
      clear hacc; have hacc := hacA; clear hacA
      refine hK.out _ _ (HKB.out _ hacc) (fun hH => ?_)
      clear hK K
      try simp only [Act.put, List.setIfInBounds_toArray, List.set_cons_zero, List.set_cons_succ]
      refine wpAnyH_ready (rs := [1]) (by kernel_rfl) (by simp) ?_
      refine AllReadyH.cons (i := 1) (o := { dst := some 28, op := Op.load 31 (Operand.tmp 27), type := 31, pos := "l07_graphs.go:71", after := #[{ on := 0, ground := Ground.data }], guard := none }) (rs := []) rfl ?_ AllReadyH.nil
      intro K hK
      have z1 := (HCK.out _ hacc).2.2.2.1
      go_simp
      clear z1
      refine hK.out _ _ (HKB.out _ hacc) (fun hH => ?_)
      clear hK K
      try simp only [Act.put, List.setIfInBounds_toArray, List.set_cons_zero, List.set_cons_succ]
      refine wpAnyH_ready (rs := [14]) (by kernel_rfl) (by simp) ?_
      refine AllReadyH.cons (i := 14) (o := { dst := some 41, op := Op.call { callee := Callee.builtin Builtin.append, args := #[Operand.tmp 28, Operand.tmp 40], argTypes := #[31, 31] }, type := 31, pos := "l07_graphs.go:71", after := #[{ on := 1, ground := Ground.data }, { on := 13, ground := Ground.data }, { on := 12, ground := Ground.chain }], guard := none }) (rs := []) rfl ?_ AllReadyH.nil
      intro K hK
      refine step_pushO wB (by rfl) _ _ (by rfl) Z.heap.size v L.length (cellsE L) (q : Int) gB nv.length cB HOB.out (by rfl) (by rfl) HLE.out HSB.out ?_
      intro g6 c6 w6 hown6 hgw6 hb6 hat6
      obtain ⟨⟨k6, f6⟩, hpb6, hbw6⟩ := HPB.out.pushed (e := (gB, cB, ((q : Int), nv))) haccB hiB hgt (hiB.lt HNV.out) hown6 hgw6 hat6
      have HP6 : Hid (PB _ _ _ _ _ _) := hpb6
      have HW6 : Hid (Below _ _ _) := hbw6
      have HS6 : Hid (w6.heap[nb]? = wr.heap[nb]?) := (hgw6.block nb (Nat.lt_of_lt_of_le HNW.out haccB.size) HNV6.out).trans (HKB.out _ haccB)
      clear hown6 hgw6 hb6 hat6 hpb6 hbw6
      refine hK.out _ _ (HS6.out) (fun hH => ?_)
      clear hK K
      try simp only [Act.put, List.setIfInBounds_toArray, List.set_cons_zero, List.set_cons_succ]
      refine wpAnyH_take (i := 15) (oi := { dst := some 42, op := Op.fieldAddr 33 (Operand.tmp 7) 1, type := 0, pos := "l07_graphs.go:71", after := #[{ on := 0, ground := Ground.phase }, { on := 1, ground := Ground.phase }, { on := 2, ground := Ground.phase }, { on := 3, ground := Ground.phase }, { on := 4, ground := Ground.phase }, { on := 5, ground := Ground.phase }, { on := 6, ground := Ground.phase }, { on := 7, ground := Ground.phase }, { on := 8, ground := Ground.phase }, { on := 9, ground := Ground.phase }, { on := 10, ground := Ground.phase }, { on := 11, ground := Ground.phase }, { on := 12, ground := Ground.phase }, { on := 13, ground := Ground.phase }, { on := 14, ground := Ground.phase }], guard := none }) (v := .pointer (some ⟨zb, 1, none⟩)) rfl (by kernel_rfl) (by kernel_rfl) (by kernel_rfl) (fun _ _ _ h => h) (Or.inl ⟨by rfl, fun w _ => by go_simp⟩) hH ?_
      simp only [Act.put, List.setIfInBounds_toArray, List.set_cons_zero, List.set_cons_succ]
      refine wpAnyH_ready (rs := [16]) (by kernel_rfl) (by simp) ?_
      refine AllReadyH.cons (i := 16) (o := { dst := none, op := Op.store 31 (Operand.tmp 42) (Operand.tmp 41), type := 0, pos := "l07_graphs.go:71", after := #[{ on := 15, ground := Ground.data }, { on := 14, ground := Ground.data }, { on := 14, ground := Ground.chain }, { on := 0, ground := Ground.phase }, { on := 1, ground := Ground.phase }, { on := 2, ground := Ground.phase }, { on := 3, ground := Ground.phase }, { on := 4, ground := Ground.phase }, { on := 5, ground := Ground.phase }, { on := 6, ground := Ground.phase }, { on := 7, ground := Ground.phase }, { on := 8, ground := Ground.phase }, { on := 9, ground := Ground.phase }, { on := 10, ground := Ground.phase }, { on := 11, ground := Ground.phase }, { on := 12, ground := Ground.phase }, { on := 13, ground := Ground.phase }, { on := 14, ground := Ground.phase }], guard := none }) (rs := []) rfl ?_ AllReadyH.nil
      intro K hK
      go_simp
      refine hK.out _ _ (HSET.out _ _ HS6.out) (fun hH => ?_)
      clear hK K
      try simp only [Act.put, List.setIfInBounds_toArray, List.set_cons_zero, List.set_cons_succ]
      refine wpAnyH_done (by kernel_rfl) ?_ _
      clear hH
      have HND2 : Hid (ndsE (L ++ [(gB, cB, ((q : Int), nv))]) = plainK xs ns F (k + 1)) := by show ndsE _ = _; rw [ndsE_app, HND.out, HPK.out]
      go_wp2
      go_roundw
      case rel => exact ⟨k + 1, L ++ [(gB, cB, ((q : Int), nv))], _, by have := HKN.out; omega, by go_num, HND2.out, HP6.out, HB.out.trans HW6.out⟩
      case measure => have := HKN.out; simp [intOf]; omega
      --@region6end
    · obtain rfl : k = F.length := by omega
      have HWR : Hid (Below W.heap.size W wr) := HWW.out.trans (HYR.out.mono HWW.out.size)
      obtain ⟨q0, f0⟩ := HR.out wr HWR.out 0 (by omega)
      obtain ⟨q1, f1⟩ := HR.out wr HWR.out 1 (by omega)
      have c0 := HPB.out.c0
      have c1 := HPB.out.c1
      obtain ⟨av, gv, cv, rfl, _, _⟩ := HPB.out.row.shape
      have HP : Hid (∀ x0 x1, _) := pair_set q0 q1
      have HBE : Hid (∀ x0 x1, Below w.heap.size w ((wr.setCell ⟨w.heap.size + 1, 0, none⟩ x0).setCell ⟨w.heap.size + 1, 1, none⟩ x1)) := fun x0 x1 => ((HB0.out.trans (HWR.out.mono HB0.out.size)).setCell (p := ⟨w.heap.size + 1, 0, none⟩) (by show w.heap.size ≤ w.heap.size + 1; omega) _).setCell (p := ⟨w.heap.size + 1, 1, none⟩) (by show w.heap.size ≤ w.heap.size + 1; omega) _
      clear hlt hk
      go_wp2
      refine bodyPost_ret (v := .agg #[.slice ra rs.length rc, .slice av L.length cv]) ?_ rfl ?_
      · obtain ⟨e0, e1⟩ := HP.out (.slice ra rs.length rc) (.slice av L.length cv)
        simp [results, Try.results24, go_sem, e0, e1]
      · obtain ⟨g1, g2, g3, g4⟩ := HRG.out
        have hw := HSZ.out
        have hWY := HWW.out.size
        have hri : Ints wr ra rg (rs.map (newR F)) := fun i hi => by
          obtain ⟨q0, q1, q2⟩ := HRI.out i hi
          have hk := HB.out.block rg (g4 (by rw [List.length_map] at hi; omega))
          exact ⟨q0, by rw [World.cell?_of_block (a := ⟨rg, i, none⟩) hk]; exact q1, by rw [World.frozen?_of_block (a := ⟨rg, i, none⟩) hk]; exact q2⟩
        have hrr : RowE wr (w.heap.size + 2) (.slice av L.length cv) L := HPB.out.row.mono (by omega)
        have hset : ∀ (X : World) (j : Nat) (x : Value), RowE X (w.heap.size + 2) (.slice av L.length cv) L → RowE (X.setCell ⟨w.heap.size + 1, j, none⟩ x) (w.heap.size + 2) (.slice av L.length cv) L := fun X j x h => h.kept (grown_set _ _ _ _) (fun r q => by
          have q2 : w.heap.size + 1 = r := Option.some.inj q
          subst q2
          exact ⟨fun z => by have := (h.row.lt _ z).1; omega, fun y hy => by have := (h.vals y hy).2.1; omega⟩)
        refine ⟨ra, rg, rc, _, L, by rw [List.length_map], HND.out.symm, (hri.grown2 (grown_set _ _ _ _) (fun _ => by omega)).grown2 (grown_set _ _ _ _) (fun _ => by omega), by omega, ((hset _ _ _ (hset _ _ _ hrr)).mono (by omega)), fun q => ?_, fun x hx => ?_, HBE.out _ _⟩
        · have := (HPB.out.row.row.lt _ q).1
          omega
        · have := (HPB.out.row.vals x hx).2.1
          omega
end Go.Proofs.Ythjfgibflbbgmaa.gs
