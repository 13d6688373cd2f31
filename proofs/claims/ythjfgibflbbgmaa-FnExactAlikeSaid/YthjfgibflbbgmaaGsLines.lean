/-
  The lines for a graph: by the program and by the specification.
-/
import Derived.Test.YthjfgibflbbgmaaGsReach
namespace Go.Proofs.Ythjfgibflbbgmaa.gs
open Go.RowKit
open kinds ints obj ref gr cl

set_option maxHeartbeats 4000000 in
set_option maxRecDepth 20000 in
theorem spec_lines (w : World) (a : Option Addr) (cap : Nat) (xs : List ByteArray) (b : Option Addr) (vc : Nat) (rs : List Int) (c : Option Addr) (cc : Nat) (ns : List Nd) (hn : xs.length ≤ 1048576) (hz : ∀ i (hi : i < xs.length), xs[i].size ≤ 1048576) (hrl : rs.length ≤ 1048576) (hnl : ns.length ≤ 1048576) (hl : Strs w a xs) (hr : Nums w b rs) (hg : Nodes w c ns) :
    Calls Try.prog 28 #[.slice a xs.length cap, .agg #[.slice b rs.length vc, .slice c ns.length cc]] w fun e w' => e = .returned (.int .i64 (linesS xs rs ns)) ∧ Below w.heap.size w w' := by
  obtain ⟨W, hW⟩ : ∃ W, W = w.alloc (.cells #[.slice b rs.length vc, .slice c ns.length cc] 33) := ⟨_, rfl⟩
  have HW : Hid (W = w.alloc (.cells #[.slice b rs.length vc, .slice c ns.length cc] 33)) := hW
  have hb0 : Below w.heap.size w W := by rw [hW]; exact (Below.refl _ _).alloc (Nat.le_refl _) _
  have HB0 : Hid (Below w.heap.size w W) := hb0
  have hsz : w.heap.size < W.heap.size := by rw [hW]; simp
  have k0 : W.cell? ⟨w.heap.size, 0, none⟩ = some (.slice b rs.length vc) := by rw [hW, World.cell?_alloc_new]; rfl
  have k1 : W.cell? ⟨w.heap.size, 1, none⟩ = some (.slice c ns.length cc) := by rw [hW, World.cell?_alloc_new]; rfl
  have HCS : Hid (∀ w', Below W.heap.size W w' → w'.cell? ⟨w.heap.size, 0, none⟩ = some (.slice b rs.length vc) ∧ w'.cell? ⟨w.heap.size, 1, none⟩ = some (.slice c ns.length cc)) := fun w' h =>
    ⟨by rw [h.cell (p := ⟨w.heap.size, 0, none⟩) hsz]; exact k0, by rw [h.cell (p := ⟨w.heap.size, 1, none⟩) hsz]; exact k1⟩
  have HGO : Hid (Calls _ _ _ W _) := spec_graphok W a cap xs b vc rs c cc ns hn hz hrl hnl (hl.below hb0) (hr.below hb0) (hg.below hb0)
  have HFN : Hid (graphB xs rs ns = true → ∀ w', Below W.heap.size W w' → Calls _ _ _ w' _) := fun h w' hb => spec_found w' a cap xs b vc rs c cc ns h ((hl.below hb0).below hb) ((hr.below hb0).below hb) ((hg.below hb0).below hb)
  have HD : Hid (linesS xs rs ns = if graphB xs rs ns = true then linesK xs ns (foundG xs rs ns) (foundG xs rs ns).length else -1) := rfl
  have HGF : Hid (graphB xs rs ns = true → ns.length ≤ 400 ∧ (foundG xs rs ns).length ≤ 400 ∧ ∀ p ∈ foundG xs rs ns, GoodG ns.length p) := fun h => by
    obtain ⟨_, _, h400, hin, hnd⟩ := graph_facts h
    obtain ⟨h1, h2⟩ := foundG_good hin hnd
    have := good_len h1 h2
    exact ⟨h400, by omega, h2⟩
  have HNF : Hid (graphB xs rs ns = true → ∀ i (hi : i < ns.length), ∃ p : Nat, ns[i].1 = (p : Int) ∧ ∃ hp : p < xs.length, kd xs ns[i].1 = xs[p] ∧ xs[p].size ≤ 23) := fun h i hi => by
    obtain ⟨htp, _, _, _, hnd⟩ := graph_facts h
    obtain ⟨p, h1, hp, h2, h3, h4, _⟩ := node_fits htp hnd hi
    exact ⟨p, h1, hp, h2, by omega⟩
  have HSN : Hid (∀ w', Below W.heap.size W w' → Strs w' a xs) := fun w' h => (hl.below hb0).below h
  have HND : Hid (∀ i (hi : i < ns.length), ∃ (b2 off : Nat), c = some ⟨b2, off, none⟩ ∧ ∀ w', Below W.heap.size W w' → w'.cell? ⟨b2, off + i * 2, none⟩ = some (.int .i64 ns[i].1)) := fun i hi => by
    obtain ⟨b2, off, _, _, e, hc⟩ := nodes_later (hg.below hb0) i hi
    exact ⟨b2, off, e, fun w' h => (hc w' h).1⟩
  generalize linesS xs rs ns = res at HD ⊢
  clear hW hb0 hl hr hg hsz hn hz hrl hnl
  cases hok : graphB xs rs ns with
  | false =>
    rw [hok] at HGO HD
    have HRS : Hid (res = -1) := by show res = -1; rw [HD.out]; rfl
    clear hok HD HFN HGF HNF HSN HND
    go_enter Try.func28, Try.ntmps28
    go_wp2_with (rw [← HW.out])
    refine HGO.out.mono ?_
    rintro e w2 ⟨rfl, hb2⟩
    have HB2 : Hid (Below w.heap.size w w2) := HB0.out.trans (hb2.mono HB0.out.size)
    clear hb2 k0 k1
    go_wp2
    go_ret
    exact ⟨by rw [HRS.out]; rfl, HB2.out⟩
  | true =>
    rw [hok] at HGO HD
    have HRS : Hid (res = linesK xs ns (foundG xs rs ns) (foundG xs rs ns).length) := by show res = _; rw [HD.out]; rfl
    have HF2 := HFN.out hok
    have HF3 : Hid (∀ w', Below W.heap.size W w' → Calls _ _ _ w' _) := HF2
    obtain ⟨h400, hf4, hfg⟩ := HGF.out hok
    have HFG : Hid (∀ p ∈ foundG xs rs ns, GoodG ns.length p) := hfg
    have HN2 : Hid (∀ i (hi : i < ns.length), ∃ p : Nat, ns[i].1 = (p : Int) ∧ ∃ hp : p < xs.length, kd xs ns[i].1 = xs[p] ∧ xs[p].size ≤ 23) := HNF.out hok
    generalize foundG xs rs ns = F at HRS HF3 hf4 HFG
    clear hok HD HFN HGF HF2 hfg HNF
    go_enter Try.func28, Try.ntmps28
    go_wp2_with (rw [← HW.out])
    refine HGO.out.mono ?_
    rintro e w2 ⟨rfl, hb2⟩
    have HB2 : Hid (Below W.heap.size W w2) := hb2
    clear hb2 k0 k1
    obtain ⟨k0, k1⟩ := HCS.out w2 HB2.out
    go_wp2_with fail
    refine (HF3.out w2 HB2.out).mono ?_
    rintro e w3 ⟨fa, fg, fc, rfl, hfg, hfi, hb3⟩
    have HB3 : Hid (Below W.heap.size W w3) := HB2.out.trans (hb3.mono HB2.out.size)
    have HFI : Hid (∀ w', Below w3.heap.size w3 w' → Ints w' fa fg F) := fun w' h => hfi.below h
    clear hfg hfi hb3 k0 k1
    go_wp2
    go_loopw [6, 7] (fun v i wr => ∃ k : Nat, k ≤ F.length ∧ i = .int .i64 (k : Int) ∧ v = .int .i64 (linesK xs ns F k) ∧ Below w3.heap.size w3 wr) (fun _ i _ => F.length - (intOf i).toNat)
    case atStart => exact ⟨0, Nat.zero_le _, rfl, rfl, Below.refl _ _⟩
    case round =>
      obtain ⟨k, hk, rfl, rfl, hb⟩ := hrel
      have HB : Hid (Below w3.heap.size w3 wr) := hb
      clear hb
      have HBW : Hid (Below W.heap.size W wr) := HB3.out.trans (HB.out.mono HB3.out.size)
      by_cases hlt : k < F.length
      · have hlti : (k : Int) < (F.length : Int) := by omega
        have hk0 : (0 : Int) ≤ (k : Int) := by omega
        have hk4 : k ≤ 400 := by omega
        obtain ⟨rfl, e5, _⟩ := HFI.out wr HB.out k hlt
        have hgr := HFG.out _ (List.getElem_mem hlt)
        have HLK : Hid (linesK xs ns F (k + 1) = linesK xs ns F k + runOf (kd xs (ns.getD (F.getD k 0).toNat (0, [])).1)) := rfl
        have hgd : F.getD k 0 = F[k] := by rw [List.getD_eq_getElem?_getD, List.getElem?_eq_getElem hlt]; rfl
        rw [hgd] at HLK
        have hlb := linesK_in xs ns F k
        generalize F[k] = p at e5 hgr HLK
        obtain ⟨p0, pn⟩ := hgr
        obtain ⟨i, rfl⟩ := Int.eq_ofNat_of_zero_le p0
        have hin : i < ns.length := by omega
        rw [Int.toNat_natCast, nd_at hin] at HLK
        obtain ⟨b2, off, rfl, hcell⟩ := HND.out i hin
        obtain ⟨q, hq1, hql, hkd, h23⟩ := HN2.out i hin
        have HCL : Hid (∀ w', Below W.heap.size W w' → w'.cell? ⟨b2, off + i * 2, none⟩ = some (.int .i64 (q : Int))) := fun w' h => by rw [hcell w' h, hq1]
        rw [hkd] at HLK
        obtain ⟨b7, o7, rfl, s1⟩ := HSN.out wr HBW.out q hql
        have HRU : Hid (∀ w', Calls _ _ _ w' _) := fun w' => spec_run xs[q] w' (by omega)
        have HST : Hid (∀ w', Below wr.heap.size wr w' → w'.cell? ⟨b7, o7 + q, none⟩ = some (.string xs[q])) := fun w' h => by rw [h.cell (p := ⟨b7, o7 + q, none⟩) (World.block_lt_of_cell? wr _ s1)]; exact s1
        have hqi : (q : Int) < (xs.length : Int) := by omega
        have hq0 : (0 : Int) ≤ (q : Int) := by omega
        have hii : (i : Int) < (ns.length : Int) := by omega
        have hi0 : (0 : Int) ≤ (i : Int) := by omega
        have hru := runOf_3 xs[q]
        generalize xs[q] = s at HLK HRU HST s1 hru
        generalize runOf s = ru at HLK HRU hru
        generalize linesK xs ns F k = lk at HLK hlb ⊢
        have hwl : IntKind.i64.wrap (lk + ru) = lk + ru := by rw [IntKind.wrap_i64]; omega
        have HGQ : Hid (fg < wr.heap.size) := World.block_lt_of_cell? wr _ e5
        have HCK : Hid (∀ w', Below wr.heap.size wr w' → w'.cell? ⟨w.heap.size, 1, none⟩ = some (.slice (some ⟨b2, off, none⟩) ns.length cc) ∧ w'.cell? ⟨fg, k, none⟩ = some (.int .i64 (i : Int)) ∧ w'.cell? ⟨b2, off + i * 2, none⟩ = some (.int .i64 (q : Int)) ∧ w'.cell? ⟨b7, o7 + q, none⟩ = some (.string s)) := fun w' h =>
          ⟨(HCS.out _ (HBW.out.trans (h.mono HBW.out.size))).2, by rw [h.cell (p := ⟨fg, k, none⟩) HGQ.out]; exact e5, HCL.out _ (HBW.out.trans (h.mono HBW.out.size)), HST.out w' h⟩
        have hacc : Below wr.heap.size wr wr.drew := (Below.refl _ _).drew
        obtain ⟨k1, _, c1, _⟩ := HCK.out wr (Below.refl _ _)
        clear hq1 hkd h23 hgd p0 pn hcell
        go_wp2_with fail
        go_region_held3 (fun w' => w'.cell? ⟨w.heap.size, 1, none⟩ = some (.slice (some ⟨b2, off, none⟩) ns.length cc) ∧ w'.cell? ⟨fg, k, none⟩ = some (.int .i64 (i : Int)) ∧ w'.cell? ⟨b2, off + i * 2, none⟩ = some (.int .i64 (q : Int)) ∧ w'.cell? ⟨b7, o7 + q, none⟩ = some (.string s)) (first | with_reducible exact HCK.out _ hacc)
          (first | (go_at_call 53; refine (HRU.out _).mono ?_; rintro e w5 ⟨rfl, rfl⟩))
        all_goals
          have HBD : Hid (Below w3.heap.size w3 wr.drew) := HB.out.drew
          go_wp2
          go_roundw
          case rel => exact ⟨k + 1, by omega, by go_num, by rw [HLK.out], HBD.out⟩
          case measure => simp [intOf]; omega
      · obtain rfl : k = F.length := by omega
        have HBE : Hid (Below w.heap.size w wr) := HB0.out.trans (HBW.out.mono HB0.out.size)
        go_wp2
        go_ret
        exact ⟨by rw [HRS.out]; rfl, HBE.out⟩
set_option maxHeartbeats 4000000 in
set_option maxRecDepth 20000 in
theorem impl_lines (w : World) (a : Option Addr) (cap : Nat) (xs : List ByteArray) (b : Option Addr) (vc : Nat) (rs : List Int) (c : Option Addr) (cc : Nat) (ns : List Nd) (hn : xs.length ≤ 1048576) (hz : ∀ i (hi : i < xs.length), xs[i].size ≤ 1048576) (hrl : rs.length ≤ 1048576) (hnl : ns.length ≤ 1048576) (hl : Strs w a xs) (hr : Nums w b rs) (hg : Nodes w c ns) :
    Calls Try.prog 29 #[.slice a xs.length cap, .agg #[.slice b rs.length vc, .slice c ns.length cc]] w fun e w' => e = .returned (.int .i64 (linesS xs rs ns)) ∧ Below w.heap.size w w' := by
  obtain ⟨W, hW⟩ : ∃ W, W = w.alloc (.cells #[.slice b rs.length vc, .slice c ns.length cc] 33) := ⟨_, rfl⟩
  have HW : Hid (W = w.alloc (.cells #[.slice b rs.length vc, .slice c ns.length cc] 33)) := hW
  have hb0 : Below w.heap.size w W := by rw [hW]; exact (Below.refl _ _).alloc (Nat.le_refl _) _
  have HB0 : Hid (Below w.heap.size w W) := hb0
  have k0 : W.cell? ⟨w.heap.size, 0, none⟩ = some (.slice b rs.length vc) := by rw [hW, World.cell?_alloc_new]; rfl
  have k1 : W.cell? ⟨w.heap.size, 1, none⟩ = some (.slice c ns.length cc) := by rw [hW, World.cell?_alloc_new]; rfl
  have HSN : Hid (graphB xs rs ns = false → Calls _ _ _ W _) := fun h => searched_no W a cap xs b vc rs c cc ns hn hz hrl hnl (hl.below hb0) (hr.below hb0) (hg.below hb0) h
  have HSY : Hid (graphB xs rs ns = true → Calls _ _ _ W _) := fun h => searched_yes W a cap xs b vc rs c cc ns hn hz (hl.below hb0) (hr.below hb0) (hg.below hb0) h
  have HD : Hid (linesS xs rs ns = if graphB xs rs ns = true then linesK xs ns (foundG xs rs ns) (foundG xs rs ns).length else -1) := rfl
  have HGF : Hid (graphB xs rs ns = true → (foundG xs rs ns).length ≤ 400 ∧ ∀ p ∈ foundG xs rs ns, GoodG ns.length p) := fun h => by
    obtain ⟨_, _, h400, hin, hnd⟩ := graph_facts h
    obtain ⟨h1, h2⟩ := foundG_good hin hnd
    have := good_len h1 h2
    exact ⟨by omega, h2⟩
  have HNF : Hid (graphB xs rs ns = true → ∀ i (hi : i < ns.length), ∃ p : Nat, ns[i].1 = (p : Int) ∧ ∃ hp : p < xs.length, kd xs ns[i].1 = xs[p] ∧ xs[p].size ≤ 23) := fun h i hi => by
    obtain ⟨htp, _, _, _, hnd⟩ := graph_facts h
    obtain ⟨p, h1, hp, h2, h3, h4, _⟩ := node_fits htp hnd hi
    exact ⟨p, h1, hp, h2, by omega⟩
  have HST : Hid (∀ w', Below w.heap.size w w' → Strs w' a xs) := fun w' h => hl.below h
  generalize linesS xs rs ns = res at HD ⊢
  clear hW hb0 hl hr hg hn hz hrl hnl
  cases hok : graphB xs rs ns with
  | false =>
    rw [hok] at HD
    have HRS : Hid (res = -1) := by show res = -1; rw [HD.out]; rfl
    have HS1 := HSN.out hok
    have HS2 : Hid (Calls _ _ _ W _) := HS1
    clear hok HD HSN HSY HGF HS1 HNF HST
    go_enter Try.func29, Try.ntmps29
    go_wp2_with (rw [← HW.out])
    refine HS2.out.mono ?_
    rintro e w2 ⟨rfl, hb2⟩
    have HBY : Hid (Below w.heap.size w (w2.alloc (.cells #[.slice none 0 0, .slice none 0 0, .slice none 0 0] 60))) := (HB0.out.trans (hb2.mono HB0.out.size)).alloc (Nat.le_trans HB0.out.size hb2.size) _
    clear hb2 k0 k1
    go_wp2
    go_ret
    exact ⟨by rw [HRS.out]; rfl, HBY.out⟩
  | true =>
    rw [hok] at HD
    have HRS : Hid (res = linesK xs ns (foundG xs rs ns) (foundG xs rs ns).length) := by show res = _; rw [HD.out]; rfl
    have HS1 := HSY.out hok
    have HS2 : Hid (Calls _ _ _ W _) := HS1
    obtain ⟨hf4, hfg⟩ := HGF.out hok
    have HFG : Hid (∀ p ∈ foundG xs rs ns, GoodG ns.length p) := hfg
    have HN2 : Hid (∀ i (hi : i < ns.length), ∃ p : Nat, ns[i].1 = (p : Int) ∧ ∃ hp : p < xs.length, kd xs ns[i].1 = xs[p] ∧ xs[p].size ≤ 23) := HNF.out hok
    clear hok HD HSN HSY HGF HS1 HNF hfg
    go_enter Try.func29, Try.ntmps29
    go_wp2_with (rw [← HW.out])
    refine HS2.out.mono ?_
    rintro e w2 ⟨bs, va, sh, FF, sb, vf, a0, c0, a1, c1, rfl, hsr, _, _, hva, hb2⟩
    obtain ⟨af, cf, rfl, hrow⟩ := hsr.shape
    obtain ⟨Y, hY⟩ : ∃ Y, Y = w2.alloc (.cells #[.slice a0 rs.length c0, .slice a1 ns.length c1, .slice af (foundG xs rs ns).length cf] 60) := ⟨_, rfl⟩
    obtain ⟨yb, hyb⟩ : ∃ y, y = w2.heap.size := ⟨_, rfl⟩
    have HY : Hid (Y = w2.alloc (.cells #[.slice a0 rs.length c0, .slice a1 ns.length c1, .slice af (foundG xs rs ns).length cf] 60)) := hY
    have HYB : Hid (yb = w2.heap.size) := hyb
    have hbY : Below w2.heap.size w2 Y := by rw [hY]; exact (Below.refl _ _).alloc (Nat.le_refl _) _
    have HBY : Hid (Below w.heap.size w Y) := HB0.out.trans ((hb2.trans (hbY.mono hb2.size)).mono HB0.out.size)
    have y2 : Y.cell? ⟨yb, 2, none⟩ = some (.slice af (foundG xs rs ns).length cf) := by rw [hY, hyb, World.cell?_alloc_new]; rfl
    have HNOD : Hid (∀ w', Below Y.heap.size Y w' → ∀ k (hk : k < (foundG xs rs ns).length), ∃ g, af = some ⟨g, 0, none⟩ ∧ w'.cell? ⟨g, k, none⟩ = some (ptr (bs.getD (foundG xs rs ns)[k].toNat 0))) := fun w' h k hk => by
      obtain ⟨g, e, hc⟩ := hrow k hk
      have hb9 : Below w2.heap.size w2 w' := hbY.trans (h.mono hbY.size)
      exact ⟨g, e, by rw [hb9.cell (p := ⟨g, k, none⟩) (World.block_lt_of_cell? w2 _ hc)]; exact hc⟩
    have HTYP : Hid (∀ w', Below Y.heap.size Y w' → ∀ i (hi : i < ns.length), w'.cell? ⟨bs.getD i 0, 0, none⟩ = some (.int .i64 ns[i].1)) := fun w' h i hi => by
      have hb9 : Below w2.heap.size w2 w' := hbY.trans (h.mono hbY.size)
      exact ((hsr.quiet hb9).at' i hi).c0
    generalize foundG xs rs ns = F at HRS HNOD HFG HY y2 hf4
    clear hb2 k0 k1 hY hyb hbY hsr hrow hva
    go_wp2_with (first | (rw [← HY.out, ← HYB.out]) | (rw [← HY.out]))
    go_loopw [7, 21] (fun v i wr => ∃ k : Nat, k ≤ F.length ∧ i = .int .i64 (k : Int) ∧ v = .int .i64 (linesK xs ns F k) ∧ Below Y.heap.size Y wr) (fun _ i _ => F.length - (intOf i).toNat)
    case atStart => exact ⟨0, Nat.zero_le _, rfl, rfl, Below.refl _ _⟩
    case round =>
      clear y2 HY HYB
      obtain ⟨k, hk, rfl, rfl, hb⟩ := hrel
      have HB : Hid (Below Y.heap.size Y wr) := hb
      clear hb
      by_cases hlt : k < F.length
      · have hlti : (k : Int) < (F.length : Int) := by omega
        have hk0 : (0 : Int) ≤ (k : Int) := by omega
        have hk4 : k ≤ 400 := by omega
        obtain ⟨ng, rfl, e5⟩ := HNOD.out wr HB.out k hlt
        have hgr := HFG.out _ (List.getElem_mem hlt)
        have HLK : Hid (linesK xs ns F (k + 1) = linesK xs ns F k + runOf (kd xs (ns.getD (F.getD k 0).toNat (0, [])).1)) := rfl
        have hgd : F.getD k 0 = F[k] := by rw [List.getD_eq_getElem?_getD, List.getElem?_eq_getElem hlt]; rfl
        rw [hgd] at HLK
        have hlb := linesK_in xs ns F k
        generalize F[k] = p at e5 hgr HLK
        obtain ⟨p0, pn⟩ := hgr
        obtain ⟨i, rfl⟩ := Int.eq_ofNat_of_zero_le p0
        have hin : i < ns.length := by omega
        rw [Int.toNat_natCast, nd_at hin] at HLK
        rw [Int.toNat_natCast] at e5
        have e6 := HTYP.out wr HB.out i hin
        obtain ⟨q, hq1, hql, hkd, h23⟩ := HN2.out i hin
        rw [hkd] at HLK
        rw [hq1] at e6
        obtain ⟨b7, o7, rfl, s1⟩ := HST.out wr (HBY.out.trans (HB.out.mono HBY.out.size)) q hql
        have HRU : Hid (∀ w', Calls _ _ _ w' _) := fun w' => impl_run xs[q] w' (by omega)
        have hqi : (q : Int) < (xs.length : Int) := by omega
        have hq0 : (0 : Int) ≤ (q : Int) := by omega
        have hru := runOf_3 xs[q]
        generalize xs[q] = s at HLK HRU s1 hru
        generalize runOf s = ru at HLK HRU hru
        generalize linesK xs ns F k = lk at HLK hlb ⊢
        generalize bs.getD i 0 = nb at e5 e6
        have e7 : wr.cell? ⟨ng, k, none⟩ = some (.pointer (some ⟨nb, 0, none⟩)) := e5
        clear hq1 hkd h23 hgd p0 pn e5
        go_wp2_with fail
        refine (HRU.out _).mono ?_
        rintro e w5 ⟨rfl, rfl⟩
        go_wp2
        go_roundw
        case rel => exact ⟨k + 1, by omega, by go_num, by rw [HLK.out], HB.out⟩
        case measure => simp [intOf]; omega
      · obtain rfl : k = F.length := by omega
        have HBE : Hid (Below w.heap.size w wr) := HBY.out.trans (HB.out.mono HBY.out.size)
        go_wp2
        go_ret
        exact ⟨by rw [HRS.out]; rfl, HBE.out⟩
end Go.Proofs.Ythjfgibflbbgmaa.gs
