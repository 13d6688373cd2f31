/-
  A plain graph, by the specification.
-/
import Derived.Test.YthjfgibflbbgmaaGsPl1
import Derived.Deep.Cut
import Derived.Deep.CutRange
import Derived.Deep.DeepCutAuto
namespace Go.Proofs.Ythjfgibflbbgmaa.gs
open Go.RowKit
open kinds ints obj ref gr cl

theorem ndsE_app (L : List En) (e : En) : ndsE (L ++ [e]) = ndsE L ++ [e.2.2] := by simp [ndsE]
theorem PB.kp {B pb : Nat} {rv v : Value} {L : List En} {wr wB w6 : World} (h : PB B pb rv v L wr) (hb : Below wr.heap.size wr wB) (hg : wB.grownBy w6 v.ownBlock) (x : Value) : Kp [pb] B wr (w6.setCell ⟨pb, 1, none⟩ x) := by
  have hsz := h.siz
  have hs2 := hb.size
  have hs3 := hg.size
  refine ⟨by simp; omega, fun k hk hn => ?_⟩
  have hn2 : k ≠ pb := fun e => hn (by simp [e])
  rw [Below.heap_setCell w6 ⟨pb, 1, none⟩ x k (fun e => hn2 (by rw [e]))]
  exact (hg.block k (by omega) (fun q => by have := (h.row.row.lt k q.symm).1; omega)).trans (hb.block k (by omega))
/-- A graph's roots, put together in its own block. -/
structure IB (B ob : Nat) (rv : Value) (xs : List Int) (w : World) : Prop where
  c0 : w.cell? ⟨ob, 0, none⟩ = some rv
  c1 : w.cell? ⟨ob, 1, none⟩ = some (.slice none 0 0)
  fz : ∀ j, w.frozen? ⟨ob, j, none⟩ = false
  row : w.ownsRow B 2 1 rv xs.length (xs.map (Value.int .i64))
  lt : ob < B
  siz : B ≤ w.heap.size
theorem IB.quiet {B ob : Nat} {rv : Value} {xs : List Int} {w w' : World} (h : IB B ob rv xs w) (hb : Below w.heap.size w w') : IB B ob rv xs w' := by
  have hl : ob < w.heap.size := World.block_lt_of_cell? w _ h.c0
  exact ⟨by rw [hb.cell (p := ⟨ob, 0, none⟩) hl]; exact h.c0, by rw [hb.cell (p := ⟨ob, 1, none⟩) hl]; exact h.c1, fun j => by rw [hb.frozen (p := ⟨ob, j, none⟩) hl]; exact h.fz j, row_kept h.row (grown_below none hb) (fun _ _ _ q => by cases q), h.lt, Nat.le_trans h.siz hb.size⟩
theorem IB.pushed {B ob : Nat} {rv rv' : Value} {xs ys : List Int} {w w6 : World} (h : IB B ob rv xs w) (hown : w6.ownsRow B 2 1 rv' ys.length (ys.map (Value.int .i64))) (hb : Below B w w6) :
    (w6.cell? ⟨ob, 0, none⟩ = some rv ∧ w6.frozen? ⟨ob, 0, none⟩ = false) ∧ IB B ob rv' ys (w6.setCell ⟨ob, 0, none⟩ rv') ∧ Below ob w (w6.setCell ⟨ob, 0, none⟩ rv') := by
  have hl := h.lt
  have k0 : w6.cell? ⟨ob, 0, none⟩ = some rv := by rw [hb.cell (p := ⟨ob, 0, none⟩) hl]; exact h.c0
  have kf : ∀ j, w6.frozen? ⟨ob, j, none⟩ = false := fun j => by rw [hb.frozen (p := ⟨ob, j, none⟩) hl]; exact h.fz j
  refine ⟨⟨k0, kf 0⟩, ⟨World.cell?_setCell_same _ _ _ k0, ?_, fun j => by rw [World.frozen?_setCell]; exact kf j, row_kept hown (grown_set _ _ _ _) (fun k r q1 q2 => by injection q2 with q2; have := (hown.lt k q1).1; omega), hl, by have := hb.size; have := h.siz; simp; omega⟩, (hb.mono (Nat.le_of_lt hl) : Below ob w w6).setCell (p := ⟨ob, 0, none⟩) (Nat.le_refl _) _⟩
  rw [World.cell?_setCell_other _ _ _ _ (off_ne (by decide)), hb.cell (p := ⟨ob, 1, none⟩) hl]
  exact h.c1
set_option maxHeartbeats 8000000 in
set_option maxRecDepth 20000 in
theorem spec_l7plain (w : World) (a : Option Addr) (cap : Nat) (xs : List ByteArray) (b : Option Addr) (vc : Nat) (rs : List Int) (c : Option Addr) (cc : Nat) (ns : List Nd) (hl : Strs w a xs) (hr : Nums w b rs) (hg : Nodes w c ns) (hok : graphB xs rs ns = true) :
    Calls Try.prog 47 #[.slice a xs.length cap, .agg #[.slice b rs.length vc, .slice c ns.length cc]] w fun e w' => PAns (rs.map (newR (foundG xs rs ns))) (plainK xs ns (foundG xs rs ns) (foundG xs rs ns).length) w e w' := by
  obtain ⟨htp, h40, h400, hin, hnd⟩ := graph_facts hok
  obtain ⟨hfn, hfg⟩ := foundG_good hin hnd
  have hf4 := good_len hfn hfg
  obtain ⟨W, hW⟩ : ∃ W, W = (w.alloc (.cells #[.slice b rs.length vc, .slice c ns.length cc] 33)).alloc (.cells #[.slice none 0 0, .slice none 0 0] 33) := ⟨_, rfl⟩
  have HW : Hid (W = (w.alloc (.cells #[.slice b rs.length vc, .slice c ns.length cc] 33)).alloc (.cells #[.slice none 0 0, .slice none 0 0] 33)) := hW
  have hb0 : Below w.heap.size w W := by rw [hW]; exact ((Below.refl _ _).alloc (Nat.le_refl _) _).alloc (by simp) _
  have HB0 : Hid (Below w.heap.size w W) := hb0
  have hsz : W.heap.size = w.heap.size + 2 := by rw [hW]; simp
  have HSZ : Hid (W.heap.size = w.heap.size + 2) := hsz
  have k0 : W.cell? ⟨w.heap.size, 0, none⟩ = some (.slice b rs.length vc) := by rw [hW, World.cell?_alloc_past _ _ _ (by simp), World.cell?_alloc_at _ _ _ _ (by simp)]; rfl
  have k1 : W.cell? ⟨w.heap.size, 1, none⟩ = some (.slice c ns.length cc) := by rw [hW, World.cell?_alloc_past _ _ _ (by simp), World.cell?_alloc_at _ _ _ _ (by simp)]; rfl
  have HCS : Hid (∀ w', Below W.heap.size W w' → w'.cell? ⟨w.heap.size, 0, none⟩ = some (.slice b rs.length vc) ∧ w'.cell? ⟨w.heap.size, 1, none⟩ = some (.slice c ns.length cc)) := fun w' h =>
    ⟨by rw [h.cell (p := ⟨w.heap.size, 0, none⟩) (by show w.heap.size < _; omega)]; exact k0, by rw [h.cell (p := ⟨w.heap.size, 1, none⟩) (by show w.heap.size < _; omega)]; exact k1⟩
  have r0 : ∀ j, j < 2 → W.cell? ⟨w.heap.size + 1, j, none⟩ = some (.slice none 0 0) ∧ W.frozen? ⟨w.heap.size + 1, j, none⟩ = false := fun j hj => ⟨by rw [hW, World.cell?_alloc_at _ _ _ _ (by simp)]; match j, hj with | 0, _ => rfl | 1, _ => rfl, by rw [hW, World.frozen?_alloc_at _ _ _ _ (by simp)]⟩
  have HR : Hid (∀ w', Below W.heap.size W w' → ∀ j, j < 2 → w'.cell? ⟨w.heap.size + 1, j, none⟩ = some (.slice none 0 0) ∧ w'.frozen? ⟨w.heap.size + 1, j, none⟩ = false) := fun w' h j hj => ⟨by rw [h.cell (p := ⟨w.heap.size + 1, j, none⟩) (by show w.heap.size + 1 < _; omega)]; exact (r0 j hj).1, by rw [h.frozen (p := ⟨w.heap.size + 1, j, none⟩) (by show w.heap.size + 1 < _; omega)]; exact (r0 j hj).2⟩
  have HFN : Hid (Calls _ _ _ W _) := spec_found W a cap xs b vc rs c cc ns hok (hl.below hb0) (hr.below hb0) (hg.below hb0)
  have HSN : Hid (∀ w', Below W.heap.size W w' → Strs w' a xs) := fun w' h => (hl.below hb0).below h
  have HRN : Hid (∀ w', Below W.heap.size W w' → Nums w' b rs) := fun w' h => (hr.below hb0).below h
  have HND : Hid (∀ i (hi : i < ns.length), ∃ (b2 off : Nat) (ai : Option Addr) (ci : Nat), c = some ⟨b2, off, none⟩ ∧ ∀ w', Below W.heap.size W w' → w'.cell? ⟨b2, off + i * 2, none⟩ = some (.int .i64 ns[i].1) ∧ w'.cell? ⟨b2, off + i * 2 + 1, none⟩ = some (.slice ai ns[i].2.length ci) ∧ Nums w' ai ns[i].2) := fun i hi => nodes_later (hg.below hb0) i hi
  have HNF : Hid (∀ i (hi : i < ns.length), _) := fun i hi => node_fits htp hnd hi
  have HRI : Hid (∀ k (hk : k < rs.length), 0 ≤ rs[k] ∧ rs[k] ≤ (ns.length : Int)) := fun k hk => allIn_at hin hk
  have HNR : Hid (∀ i (hi : i < ns.length), allIn ns.length (nmA xs ns[i]) = true) := fun i hi => node_refs hnd hi
  have HFG : Hid (∀ p ∈ foundG xs rs ns, GoodG ns.length p) := hfg
  generalize foundG xs rs ns = F at HFN HFG hf4 ⊢
  clear hW hb0 hsz r0 hl hr hg hok htp hin hnd hfn hfg
  go_enter Try.func47, Try.ntmps47
  go_wp2_with (rw [← HW.out])
  refine HFN.out.mono ?_
  rintro e w2 ⟨fa, fg, fc, rfl, hfg, hfi, hb2⟩
  have HB2 : Hid (Below W.heap.size W w2) := hb2
  have HFI : Hid (∀ w', Below w2.heap.size w2 w' → Ints w' fa fg F) := fun w' h => hfi.below h
  obtain ⟨Z, hZ⟩ : ∃ Z, Z = w2.alloc (.cells #[.slice none 0 0, .slice none 0 0] 33) := ⟨_, rfl⟩
  obtain ⟨zb, hzb⟩ : ∃ z, z = w2.heap.size := ⟨_, rfl⟩
  have HZ : Hid (Z = w2.alloc (.cells #[.slice none 0 0, .slice none 0 0] 33)) := hZ
  have HZB : Hid (zb = w2.heap.size) := hzb
  have hbZ : Below w2.heap.size w2 Z := by rw [hZ]; exact (Below.refl _ _).alloc (Nat.le_refl _) _
  have hZs : Z.heap.size = w2.heap.size + 1 := by rw [hZ]; simp
  have HIB : Hid (IB Z.heap.size zb (.slice none 0 0) ((rs.take 0).map (newR F)) Z) := ⟨by rw [hZ, hzb, World.cell?_alloc_new]; rfl, by rw [hZ, hzb, World.cell?_alloc_new]; rfl, fun j => by rw [hZ, hzb]; exact World.frozen?_alloc_new _ _ _ _, World.ownsRow_nil _ _ _ _, by omega, Nat.le_refl _⟩
  have HZN : Hid (W.heap.size ≤ zb ∧ w2.heap.size ≤ zb) := ⟨by have := hb2.size; show W.heap.size ≤ zb; omega, by show w2.heap.size ≤ zb; omega⟩
  have HZW : Hid (∀ w', Below zb Z w' → Below w2.heap.size w2 w') := fun w' h => hbZ.trans (by rw [← hzb]; exact h)
  clear hfg hfi hb2 k0 k1 hZ hzb hbZ hZs
  go_wp2_with fail
  first | (rw [← HZ.out, ← HZB.out]) | (rw [← HZ.out])
  try rw [← HZB.out]
  go_loopw [7] (fun i wr => ∃ (k : Nat) (rv : Value), k ≤ rs.length ∧ i = .int .i64 (k : Int) ∧ IB Z.heap.size zb rv ((rs.take k).map (newR F)) wr ∧ Below zb Z wr) (fun i _ => rs.length - (intOf i).toNat)
  case atStart => exact ⟨0, _, Nat.zero_le _, rfl, HIB.out, Below.refl _ _⟩
  case round =>
    clear HIB HZ HZB
    obtain ⟨k, rv, hk, rfl, hib, hb⟩ := hrel
    have HIB : Hid (IB Z.heap.size zb rv ((rs.take k).map (newR F)) wr) := hib
    have HB : Hid (Below zb Z wr) := hb
    have HB2R : Hid (Below w2.heap.size w2 wr) := HZW.out wr hb
    have HWR : Hid (Below W.heap.size W wr) := HB2.out.trans ((HZW.out wr hb).mono HB2.out.size)
    clear hib hb
    obtain ⟨m0, m1⟩ := HCS.out wr HWR.out
    by_cases hlt : k < rs.length
    · have hlti : (k : Int) < (rs.length : Int) := by omega
      have hk0 : (0 : Int) ≤ (k : Int) := by omega
      have hk4 : k ≤ 40 := by omega
      obtain ⟨b5, o5, rfl, e5⟩ := HRN.out wr HWR.out k hlt
      obtain ⟨hx0, hxn⟩ := HRI.out k hlt
      have HTK : Hid ((rs.take (k + 1)).map (newR F) = (rs.take k).map (newR F) ++ [newR F rs[k]]) := by
        show (rs.take (k + 1)).map (newR F) = _
        rw [List.take_succ_eq_append_getElem hlt, List.map_append]; rfl
      have HLK : Hid (((rs.take k).map (newR F)).length ≤ 1048576) := by show _ ≤ _; rw [List.length_map, List.length_take]; omega
      generalize (rs.take k).map (newR F) = M at HIB HTK HLK
      generalize rs[k] = x at e5 hx0 hxn HTK
      have hw1 : IntKind.i64.wrap (x - 1) = x - 1 := by rw [IntKind.wrap_i64]; omega
      have HPL : Hid (∀ w', Below wr.heap.size wr w' → Calls _ _ _ w' _) := fun w' h => place_any w' fa F.length fc F (x - 1) rfl (by omega) ((HFI.out w' (HB2R.out.trans (h.mono HB2R.out.size))).nums)
      have hsk := seekI_in (x - 1) F F.length
      have HNE : Hid (newR F x = seekI (x - 1) F F.length + 1) := rfl
      generalize seekI (x - 1) F F.length = sk at HPL hsk HNE
      have hw2 : IntKind.i64.wrap (sk + 1) = sk + 1 := by rw [IntKind.wrap_i64]; omega
      have c0 := HIB.out.c0
      have cf := HIB.out.fz 0
      have HCK : Hid (∀ w', Below wr.heap.size wr w' → w'.cell? ⟨zb, 0, none⟩ = some rv ∧ w'.frozen? ⟨zb, 0, none⟩ = false ∧ w'.cell? ⟨w.heap.size, 0, none⟩ = some (.slice (some ⟨b5, o5, none⟩) rs.length vc) ∧ w'.cell? ⟨b5, o5 + k, none⟩ = some (.int .i64 x)) := fun w' h =>
        ⟨(HIB.out.quiet h).c0, (HIB.out.quiet h).fz 0, (HCS.out w' (HWR.out.trans (h.mono HWR.out.size))).1, by rw [h.cell (p := ⟨b5, o5 + k, none⟩) (World.block_lt_of_cell? wr _ e5)]; exact e5⟩
      have hacc : Below wr.heap.size wr wr.drew := (Below.refl _ _).drew
      have ha0 : (wr.alloc (.cells #[.int .i64 (sk + 1)] 2)).cell? ⟨zb, 0, none⟩ = some rv := (HIB.out.quiet ((Below.refl _ _).alloc (Nat.le_refl _) _)).c0
      clear hx0 hxn
      go_wp2_with fail
      go_region_law (first | (go_simp; go_at_call 40; refine (HPL.out _ hacc).mono ?_; rintro e wA ⟨rfl, rfl⟩) | (refine step_pushI wr.drew (by rfl) _ _ (by rfl) Z.heap.size rv M (sk + 1) (HIB.out.quiet hacc).row (by rfl) (by rfl) HLK.out (HIB.out.quiet hacc).siz ?_; intro g6 c6 w6 hown6 hb6 hB6; obtain ⟨⟨x6, f6⟩, hib6, hbb6⟩ := (HIB.out.quiet hacc).pushed hown6 hb6; have HI6 : Hid (IB _ _ _ _ _) := hib6; have HB6 : Hid (Below zb wr.drew _) := hbb6; clear hown6 hb6 hB6 hib6 hbb6))
      all_goals
        have HBN : Hid (Below zb Z wr.drew) := HB.out.drew
        go_wp2
        go_roundw
        case rel => exact ⟨k + 1, _, by omega, by go_num, by rw [HTK.out, HNE.out]; exact HI6.out, HBN.out.trans HB6.out⟩
        case measure => simp [intOf]; omega
    · obtain rfl : k = rs.length := by omega
      rw [List.take_length] at HIB
      obtain ⟨ar, gr, cr, rfl, hgr, hir⟩ := ints_of_row HIB.out.row
      rw [List.length_map] at HIB
      have hzl := World.block_lt_of_cell? wr _ HIB.out.c0
      obtain ⟨g9, hi9, hz9, hl9, h09⟩ : ∃ g', Ints wr ar g' (rs.map (newR F)) ∧ zb ≤ g' ∧ g' < wr.heap.size ∧ (0 < rs.length → zb < g') := by
        have hzz := HIB.out.lt
        rcases Nat.eq_zero_or_pos rs.length with q | q
        · exact ⟨zb, fun i hi => absurd hi (by rw [List.length_map]; omega), Nat.le_refl _, hzl, fun h => by omega⟩
        · exact ⟨gr, hir, by omega, hir.lt (by rw [List.length_map]; exact q), fun _ => by omega⟩
      have HR9 : Hid (∀ w', Kp [zb] wr.heap.size wr w' → Ints w' ar g9 (rs.map (newR F))) := fun w' h i hi => by
        obtain ⟨q0, q1, q2⟩ := hi9 i hi
        have hk := h.2 g9 hl9 (fun e => by have := h09 (by rw [List.length_map] at hi; omega); have := List.mem_singleton.1 e; omega)
        exact ⟨q0, by rw [World.cell?_of_block (a := ⟨g9, i, none⟩) hk]; exact q1, by rw [World.frozen?_of_block (a := ⟨g9, i, none⟩) hk]; exact q2⟩
      have HZ9 : Hid (zb ≤ g9 ∧ g9 < wr.heap.size) := ⟨hz9, hl9⟩
      have HPB : Hid (PB wr.heap.size zb (.slice ar rs.length cr) (.slice none 0 0) [] wr) := ⟨HIB.out.c0, HIB.out.c1, HIB.out.fz, RowE.nil _ _, hzl, Nat.le_refl _⟩
      clear hir hgr hi9 hz9 hl9 h09 hzl HIB hlt hk HRN HRI
      go_wp2
      clear HZW m0 m1
      rename World => V
      go_loopw [8] (fun i wx => ∃ (k : Nat) (L : List En) (v : Value), k ≤ F.length ∧ i = .int .i64 (k : Int) ∧ ndsE L = plainK xs ns F k ∧ PB V.heap.size zb (.slice ar rs.length cr) v L wx ∧ Below zb V wx ∧ Kp [zb] V.heap.size V wx) (fun i _ => F.length - (intOf i).toNat)
      case atStart => exact ⟨0, [], _, Nat.zero_le _, rfl, rfl, HPB.out, Below.refl _ _, Kp.refl _ _ _⟩
      case round =>
        clear HPB
        rename World => U
        obtain ⟨k, L, v, hk, rfl, hnds, hpb, hb, hkp⟩ := hrel
        have HPB : Hid (PB V.heap.size zb (.slice ar rs.length cr) v L U) := hpb
        have HBU : Hid (Below zb V U) := hb
        have HKP : Hid (Kp [zb] V.heap.size V U) := hkp
        have HNS : Hid (ndsE L = plainK xs ns F k) := hnds
        have HWU : Hid (Below W.heap.size W U) := HWR.out.trans (hb.mono HZN.out.1)
        have H2U : Hid (Below w2.heap.size w2 U) := HB2R.out.trans (hb.mono HZN.out.2)
        have hLk : L.length = k := by rw [← ndsE_len, hnds, plainK_len]
        have HLE : Hid (L.length ≤ 1048576) := by show L.length ≤ _; omega
        clear hpb hb hkp hnds hLk HB HB2R HWR
        obtain ⟨m0, m1⟩ := HCS.out U HWU.out
        by_cases hlt : k < F.length
        · have hlti : (k : Int) < (F.length : Int) := by omega
          have hk0 : (0 : Int) ≤ (k : Int) := by omega
          have hk4 : k ≤ 400 := by omega
          have HKN : Hid (k < F.length) := hlt
          obtain ⟨rfl, e5, _⟩ := HFI.out U H2U.out k hlt
          have hgr := HFG.out _ (List.getElem_mem hlt)
          have HPK : Hid (plainK xs ns F (k + 1) = plainK xs ns F k ++ [newN xs F (ns.getD (F.getD k 0).toNat (0, []))]) := rfl
          have hgd : F.getD k 0 = F[k] := by rw [List.getD_eq_getElem?_getD, List.getElem?_eq_getElem hlt]; rfl
          rw [hgd] at HPK
          clear hgd
          have HPL : Hid (∀ (x : Int) (w' : World), 0 ≤ x → Below U.heap.size U w' → Calls Try.prog 40 #[.slice (some ⟨fg, 0, none⟩) F.length fc, .int .i64 (x - 1)] w' fun e w5 => e = .returned (.int .i64 (seekI (x - 1) F F.length)) ∧ w' = w5) := fun x w' _ h => (place_any w' _ F.length fc F (x - 1) rfl (by omega) ((HFI.out w' (H2U.out.trans (h.mono H2U.out.size))).nums))
          have HSK : Hid (∀ x : Int, _) := fun x => seekI_in (x - 1) F F.length
          generalize F[k] = p at e5 hgr HPK
          obtain ⟨p0, pn⟩ := hgr
          obtain ⟨i, rfl⟩ := Int.eq_ofNat_of_zero_le p0
          have hin : i < ns.length := by omega
          have hii : (i : Int) < (ns.length : Int) := pn
          rw [Int.toNat_natCast, nd_at hin] at HPK
          obtain ⟨b2, off, ai, ci, rfl, hnd⟩ := HND.out i hin
          have HNC : Hid (∀ w', Below W.heap.size W w' → _) := hnd
          obtain ⟨q, hq1, hql2, hkd, hvl, h23, h1, hty⟩ := HNF.out i hin
          have hra := HNR.out i hin
          unfold nmA at hra
          rw [hkd] at hra
          have hnw : newN xs F ns[i] = ((q : Int), fwdL (newR F) xs[q] ns[i].2 ns[i].2.length) := by unfold newN; rw [hkd, hq1]
          rw [hnw] at HPK
          have HSC : Hid (∀ w', Below W.heap.size W w' → ∃ b o, a = some ⟨b, o, none⟩ ∧ w'.cell? ⟨b, o + q, none⟩ = some (.string xs[q])) := fun w' h => HSN.out w' h q hql2
          clear hnw hkd hnd
          generalize ns[i] = nd at HNC hq1 hvl h23 h1 hra HPK
          obtain ⟨t, vs⟩ := nd
          have hq2 : t = (q : Int) := hq1
          subst hq2
          replace HNC : Hid (∀ w', Below W.heap.size W w' → w'.cell? ⟨b2, off + i * 2, none⟩ = some (.int .i64 (q : Int)) ∧ w'.cell? ⟨b2, off + i * 2 + 1, none⟩ = some (.slice ai vs.length ci) ∧ Nums w' ai vs) := HNC
          replace HPK : Hid (plainK xs ns F (k + 1) = plainK xs ns F k ++ [((q : Int), fwdL (newR F) xs[q] vs vs.length)]) := HPK
          have HVS : Hid (vs.length = xs[q].size) := hvl
          have h23 : vs.length ≤ 23 := h23
          have HN1 : Hid (1 ≤ vs.length) := h1
          clear hvl
          have HRA : Hid (allIn ns.length (refsL xs[q] vs vs.length) = true) := hra
          have hqi : (q : Int) < (xs.length : Int) := by omega
          have hq0 : (0 : Int) ≤ (q : Int) := by omega
          generalize xs[q] = s at HSC HRA HVS HPK
          have hgql : fg < U.heap.size := World.block_lt_of_cell? U _ e5
          clear hty hq1 hql2 h1 hra p0 pn
          have HCU : Hid (∀ w', Below U.heap.size U w' → Below W.heap.size W w') := fun w' h => HWU.out.trans (h.mono HWU.out.size)
          have HCK : Hid (∀ w', Below U.heap.size U w' → w'.cell? ⟨w.heap.size, 1, none⟩ = some (.slice (some ⟨b2, off, none⟩) ns.length cc) ∧ w'.cell? ⟨fg, k, none⟩ = some (.int .i64 (i : Int)) ∧ w'.cell? ⟨b2, off + i * 2, none⟩ = some (.int .i64 (q : Int)) ∧ w'.cell? ⟨b2, off + i * 2 + 1, none⟩ = some (.slice ai vs.length ci)) := fun w' h =>
            ⟨(HCS.out _ (HCU.out _ h)).2, by rw [h.cell (p := ⟨fg, k, none⟩) hgql]; exact e5, (HNC.out _ (HCU.out _ h)).1, (HNC.out _ (HCU.out _ h)).2.1⟩
          have hacc : Below U.heap.size U U.drew := (Below.refl _ _).drew
          obtain ⟨_, _, d0, d1⟩ := HCK.out U (Below.refl _ _)
          go_upto_region 10 with fail
          go_cut [9] (fun pv wx => ∃ B : Nat, pv = .pointer (some ⟨B, 0, none⟩) ∧ U.heap.size ≤ B ∧ wx.cell? ⟨B, 0, none⟩ = some (.int .i64 (q : Int)) ∧ wx.cell? ⟨B, 1, none⟩ = some (.slice ai vs.length ci) ∧ Below U.heap.size U wx)
          case first =>
            go_region_held3 (fun w' => w'.cell? ⟨w.heap.size, 1, none⟩ = some (.slice (some ⟨b2, off, none⟩) ns.length cc) ∧ w'.cell? ⟨fg, k, none⟩ = some (.int .i64 (i : Int)) ∧ w'.cell? ⟨b2, off + i * 2, none⟩ = some (.int .i64 (q : Int)) ∧ w'.cell? ⟨b2, off + i * 2 + 1, none⟩ = some (.slice ai vs.length ci)) (first | with_reducible exact HCK.out _ hacc | with_reducible exact HCK.out _ (hacc.alloc hacc.size _) | with_reducible exact HCK.out _ ((Below.refl _ _).alloc (Nat.le_refl _) _).drew)
              (first | fail)
            all_goals
              go_wp2_with fail
              go_meet
              first
                | exact ⟨_, rfl, Nat.le_refl _, by show (U.alloc _).cell? _ = _; rw [World.cell?_alloc_new]; rfl, by show (U.alloc _).cell? _ = _; rw [World.cell?_alloc_new]; rfl, ((Below.refl _ _).alloc (Nat.le_refl _) _).drew⟩
          case rest =>
            obtain ⟨OB, rfl, hOB, y0, y1, hU⟩ := hcut
            have HU : Hid (Below U.heap.size U wc) := hU
            have Y0 : Hid (wc.cell? ⟨OB, 0, none⟩ = some (.int .i64 (q : Int))) := y0
            have Y1 : Hid (wc.cell? ⟨OB, 1, none⟩ = some (.slice ai vs.length ci)) := y1
            have HOL : Hid (OB < wc.heap.size) := World.block_lt_of_cell? wc _ y0
            obtain ⟨X2, hX2⟩ : ∃ X, X = wc.alloc (.cells #[.int .i64 (q : Int), .slice none 0 0] 53) := ⟨_, rfl⟩
            have HX2 : Hid (X2 = wc.alloc (.cells #[.int .i64 (q : Int), .slice none 0 0] 53)) := hX2
            have HO2 : Hid (OBox wc wc.heap.size (q : Int) [] (.slice none 0 0) X2) := by show OBox _ _ _ _ _ _; rw [hX2]; exact OBox.start wc wc _ _ (Below.refl _ _)
            clear hU hX2 hacc e5 hgql HCK d0 d1 m0 m1 hii hin hlt hk hOB
            go_wp2_with (rw [← HX2.out])
            clear y0 y1
            go_loopw [11, 12] (fun i u wy => ∃ (j : Nat) (v5 : Value), j ≤ vs.length ∧ i = .int .i64 (j : Int) ∧ OBox wc wc.heap.size (q : Int) (fwdL (newR F) s vs j) v5 wy) (fun i _ _ => vs.length - (intOf i).toNat)
            case atStart => exact ⟨0, _, Nat.zero_le _, rfl, HO2.out⟩
            case round =>
              clear HO2 HX2
              obtain ⟨j, v5, hj, rfl, hbox⟩ := hrel
              have HX : Hid (OBox wc wc.heap.size (q : Int) (fwdL (newR F) s vs j) v5 wr) := hbox
              have HXB : Hid (Below U.heap.size U wr) := HU.out.trans (hbox.below.mono HU.out.size)
              have HXW : Hid (Below W.heap.size W wr) := HCU.out wr HXB.out
              have y0 : wr.cell? ⟨OB, 0, none⟩ = some (.int .i64 (q : Int)) := by rw [hbox.below.cell (p := ⟨OB, 0, none⟩) HOL.out]; exact Y0.out
              have y1 : wr.cell? ⟨OB, 1, none⟩ = some (.slice ai vs.length ci) := by rw [hbox.below.cell (p := ⟨OB, 1, none⟩) HOL.out]; exact Y1.out
              have c4 := hbox.c0
              have c5 := hbox.c1
              have f5 := hbox.fr 1
              clear hbox
              by_cases hlt2 : j < vs.length
              · have HJ : Hid (j < vs.length) := hlt2
                have hjmi : (j : Int) < (vs.length : Int) := by omega
                have hj0 : (0 : Int) ≤ (j : Int) := by omega
                have hj23 : j < 23 := by omega
                have hjs : j < s.size := by have := HVS.out; omega
                have hjsi : (j : Int) < (s.size : Int) := by omega
                have hIR := isR_at s j hjs
                obtain ⟨b6, o6, rfl, f1⟩ := (HNC.out wr HXW.out).2.2 j hlt2
                rw [getD_intI vs j hlt2] at f1
                obtain ⟨b7, o7, rfl, s1⟩ := HSC.out wr HXW.out
                have HXB2 : Hid (isR s j = true → 0 ≤ vs.getD j 0 ∧ vs.getD j 0 ≤ (ns.length : Int)) := fun h => refs_at HRA.out hlt2 h
                have HS : Hid (fwdL (newR F) s vs (j + 1) = fwdL (newR F) s vs j ++ [if isR s j = true then newR F (vs.getD j 0) else vs.getD j 0]) := rfl
                have HLK : Hid ((fwdL (newR F) s vs j).length ≤ 1048576) := by show (fwdL (newR F) s vs j).length ≤ _; rw [fwdL_len]; omega
                generalize fwdL (newR F) s vs j = M at HX HS HLK
                generalize vs.getD j 0 = x at f1 HS HXB2
                cases hr : isR s j with
                | false =>
                  rw [hr] at hIR
                  have HS2 : Hid (fwdL (newR F) s vs (j + 1) = M ++ [x]) := by
                    have := HS.out
                    rw [hr, if_neg (by decide)] at this
                    exact this
                  clear hr HXB2 HS
                  go_wp2_with (refine wpList_push wr (by rfl) _ _ (by rfl) (wc.heap.size + 1) v5 M x HX.out.own (by rfl) (by rfl) HLK.out HX.out.lt ?_; intro g cap6 w6 hown6 hb6 hB6; have HX6 : Hid (_) := HX.out.step hown6 hb6; obtain ⟨k6, f6⟩ := HX.out.kept hb6; clear hown6 hb6 hB6)
                  go_roundw
                  case rel => exact ⟨j + 1, _, by have := HJ.out; omega, by go_num, by rw [HS2.out]; exact HX6.out⟩
                  case measure => have := HJ.out; simp [intOf]; omega
                | true =>
                  rw [hr] at hIR HXB2
                  obtain ⟨hx0, hxn⟩ := HXB2.out rfl
                  have HS2 : Hid (fwdL (newR F) s vs (j + 1) = M ++ [newR F x]) := by
                    have := HS.out
                    rw [hr, if_pos rfl] at this
                    exact this
                  have hw1 : IntKind.i64.wrap (x - 1) = x - 1 := by rw [IntKind.wrap_i64]; omega
                  have HPX : Hid (Calls _ _ _ wr _) := HPL.out x wr hx0 HXB.out
                  have HNE : Hid (newR F x = seekI (x - 1) F F.length + 1) := rfl
                  have hsk := HSK.out x
                  generalize seekI (x - 1) F F.length = sk at HPX HNE hsk
                  have hw2 : IntKind.i64.wrap (sk + 1) = sk + 1 := by rw [IntKind.wrap_i64]; omega
                  clear hr HXB2 HS hx0 hxn hsk
                  go_wp2_with fail
                  refine HPX.out.mono ?_
                  rintro e w4 ⟨rfl, rfl⟩
                  go_wp2_with (refine wpList_push wr (by rfl) _ _ (by rfl) (wc.heap.size + 1) v5 M (sk + 1) HX.out.own (by rfl) (by rfl) HLK.out HX.out.lt ?_; intro g cap6 w6 hown6 hb6 hB6; have HX6 : Hid (_) := HX.out.step hown6 hb6; obtain ⟨k6, f6⟩ := HX.out.kept hb6; clear hown6 hb6 hB6)
                  go_roundw
                  case rel => exact ⟨j + 1, _, by have := HJ.out; omega, by go_num, by rw [HS2.out, HNE.out]; exact HX6.out⟩
                  case measure => have := HJ.out; simp [intOf]; omega
              · obtain rfl : j = vs.length := by omega
                have hnl := fwdL_len (newR F) s vs vs.length
                have HND2 : Hid (ndsE L ++ [((q : Int), fwdL (newR F) s vs vs.length)] = plainK xs ns F (k + 1)) := by show _ = _; rw [HPK.out, HNS.out]
                generalize fwdL (newR F) s vs vs.length = nv at HX HND2 hnl
                have hn0 : 0 < nv.length := by have := HN1.out; omega
                obtain ⟨a3, g3, cap3, rfl, hg3, hin3⟩ := ints_of_row HX.out.own
                obtain ⟨rfl, -, -⟩ := hin3 0 hn0
                have HIV : Hid (Ints wr (some ⟨g3, 0, none⟩) g3 nv) := hin3
                have HGT : Hid (U.heap.size ≤ g3) := Nat.le_trans HU.out.size (Nat.le_trans (Nat.le_succ _) hg3)
                have HGL : Hid (g3 < wr.heap.size) := hin3.lt hn0
                have HQB : Hid (PB V.heap.size zb (.slice ar rs.length cr) v L wr) := HPB.out.quiet HXB.out
                have z1 := HQB.out.c1
                clear hin3 hg3 hn0 hlt2 hj hnl
                go_wp2_with (refine wpList_pushO wr (by rfl) _ _ (by rfl) V.heap.size v L.length (cellsE L) (q : Int) g3 nv.length cap3 HQB.out.row.row (by rfl) (by rfl) HLE.out HQB.out.siz ?_; intro g6 c6 w6 hown6 hgw6 hb6 hat6; obtain ⟨⟨k6, f6⟩, hpb6, hbw6⟩ := HPB.out.pushed (e := (g3, cap3, ((q : Int), nv))) HXB.out HIV.out HGT.out HGL.out hown6 hgw6 hat6; have HP6 : Hid (PB _ _ _ _ _ _) := hpb6; have HW6 : Hid (Below _ _ _) := hbw6; have HK6 : Hid (Kp [zb] V.heap.size U (w6.setCell ⟨zb, 1, none⟩ (.slice (some ⟨g6, 0, none⟩) (L.length + 1) c6))) := HPB.out.kp HXB.out hgw6 _; clear hown6 hgw6 hb6 hat6 hpb6 hbw6)
                go_roundw
                case rel => exact ⟨k + 1, L ++ [(g3, cap3, ((q : Int), nv))], _, by have := HKN.out; omega, by go_num, by rw [ndsE_app]; exact HND2.out, HP6.out, HBU.out.trans HW6.out, HKP.out.trans HK6.out⟩
                case measure => have := HKN.out; simp [intOf]; omega
        · obtain rfl : k = F.length := by omega
          obtain ⟨q0, f0⟩ := HR.out U HWU.out 0 (by omega)
          obtain ⟨q1, f1⟩ := HR.out U HWU.out 1 (by omega)
          have c0 := HPB.out.c0
          have c1 := HPB.out.c1
          obtain ⟨av, gv, cv, rfl, _, _⟩ := HPB.out.row.shape
          have HP : Hid (∀ x0 x1, _) := pair_set q0 q1
          have HBE : Hid (∀ x0 x1, Below w.heap.size w ((U.setCell ⟨w.heap.size + 1, 0, none⟩ x0).setCell ⟨w.heap.size + 1, 1, none⟩ x1)) := fun x0 x1 => ((HB0.out.trans (HWU.out.mono HB0.out.size)).setCell (p := ⟨w.heap.size + 1, 0, none⟩) (by show w.heap.size ≤ w.heap.size + 1; omega) _).setCell (p := ⟨w.heap.size + 1, 1, none⟩) (by show w.heap.size ≤ w.heap.size + 1; omega) _
          clear hlt hk
          go_wp2
          refine bodyPost_ret (v := .agg #[.slice ar rs.length cr, .slice av L.length cv]) ?_ rfl ?_
          · obtain ⟨e0, e1⟩ := HP.out (.slice ar rs.length cr) (.slice av L.length cv)
            simp [results, Try.results47, go_sem, e0, e1]
          · obtain ⟨g1, g2⟩ := HZ9.out
            have hw := HSZ.out
            have hWz := HZN.out.1
            have hri : Ints U ar g9 (rs.map (newR F)) := HR9.out U HKP.out
            have hrr : RowE U (w.heap.size + 2) (.slice av L.length cv) L := HPB.out.row.mono (by omega)
            have hset : ∀ (X : World) (j : Nat) (x : Value), RowE X (w.heap.size + 2) (.slice av L.length cv) L → RowE (X.setCell ⟨w.heap.size + 1, j, none⟩ x) (w.heap.size + 2) (.slice av L.length cv) L := fun X j x h => h.kept (grown_set _ _ _ _) (fun r q => by
              have q2 : w.heap.size + 1 = r := Option.some.inj q
              subst q2
              exact ⟨fun z => by have := (h.row.lt _ z).1; omega, fun y hy => by have := (h.vals y hy).2.1; omega⟩)
            refine ⟨ar, g9, cr, _, L, by rw [List.length_map], HNS.out.symm, (hri.grown2 (grown_set _ _ _ _) (fun _ => by omega)).grown2 (grown_set _ _ _ _) (fun _ => by omega), by omega, ((hset _ _ _ (hset _ _ _ hrr)).mono (by omega)), fun q => ?_, fun x hx => ?_, HBE.out _ _⟩
            · have := (HPB.out.row.row.lt _ q).1
              omega
            · have := (HPB.out.row.vals x hx).2.1
              omega
end Go.Proofs.Ythjfgibflbbgmaa.gs
