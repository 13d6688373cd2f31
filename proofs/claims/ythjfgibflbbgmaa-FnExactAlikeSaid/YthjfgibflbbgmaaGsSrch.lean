/-
  A search, begun and gone through, by the program.
-/
import Derived.Test.YthjfgibflbbgmaaGsFind
import Derived.Test.YthjfgibflbbgmaaGr6
namespace Go.Proofs.Ythjfgibflbbgmaa.gs
open Go.RowKit
open kinds ints obj ref gr cl

theorem tri_set {w : World} {b : Nat} {v0 v1 v2 : Value} (h0 : w.cell? ⟨b, 0, none⟩ = some v0) (h1 : w.cell? ⟨b, 1, none⟩ = some v1) (h2 : w.cell? ⟨b, 2, none⟩ = some v2) (x0 x1 x2 : Value) :
    (((w.setCell ⟨b, 0, none⟩ x0).setCell ⟨b, 1, none⟩ x1).setCell ⟨b, 2, none⟩ x2).cell? ⟨b, 0, none⟩ = some x0 ∧ (((w.setCell ⟨b, 0, none⟩ x0).setCell ⟨b, 1, none⟩ x1).setCell ⟨b, 2, none⟩ x2).cell? ⟨b, 1, none⟩ = some x1 ∧ (((w.setCell ⟨b, 0, none⟩ x0).setCell ⟨b, 1, none⟩ x1).setCell ⟨b, 2, none⟩ x2).cell? ⟨b, 2, none⟩ = some x2 := by
  refine ⟨?_, ?_, ?_⟩
  · rw [World.cell?_setCell_other _ _ _ _ (off_ne (by decide)), World.cell?_setCell_other _ _ _ _ (off_ne (by decide))]
    exact World.cell?_setCell_same _ _ _ h0
  · rw [World.cell?_setCell_other _ _ _ _ (off_ne (by decide))]
    exact World.cell?_setCell_same _ _ _ (by rw [World.cell?_setCell_other _ _ _ _ (off_ne (by decide))]; exact h1)
  · exact World.cell?_setCell_same _ _ _ (by rw [World.cell?_setCell_other _ _ _ _ (off_ne (by decide)), World.cell?_setCell_other _ _ _ _ (off_ne (by decide))]; exact h2)
theorem Sr.start {xs : List ByteArray} {rs : List Int} {ns : List Nd} {bs : List Nat} {va : Nat → Value} {B : Nat} {na : Option Addr} {nc : Nat} {w1 w2 w3 X : World} (h : Lk2 B bs va xs ns (.slice na ns.length nc) ns.length w1 w2) (hb : Below w2.heap.size w2 w3) {g3 : Nat} (hg3 : w2.heap.size ≤ g3) (hg3l : g3 < w3.heap.size) (hr : ∀ k (hk : k < rs.length), w3.cell? ⟨g3, k, none⟩ = some (ptrOf bs rs[k])) (T : TypeId)
    (hX : X = w3.alloc (.cells #[.slice (some ⟨g3, 0, none⟩) rs.length rs.length, .slice na ns.length nc, .slice none 0 0] T)) :
    Sr xs rs ns bs va (w3.heap.size :: bs) B X.heap.size w3.heap.size (.slice none 0 0) [] X := by
  have h3 := h.quiet hb
  have hbX : Below w3.heap.size w3 X := by rw [hX]; exact (Below.refl _ _).alloc (Nat.le_refl _) _
  have hX4 := h3.quiet hbX
  have hXs : X.heap.size = w3.heap.size + 1 := by rw [hX]; simp
  have hlt := h3.one.lt
  have hlo := h3.one.lo
  have hs2 := hb.size
  have hB2 := h.one.siz
  have hnb : w3.heap.size ∉ bs := fun q => by have := hlt _ q; omega
  have hk : ∀ k, k < w3.heap.size → X.heap[k]? = w3.heap[k]? := fun k hk => hbX.block k hk
  refine ⟨h.one.inj, h.len, fun x hx => List.mem_cons_of_mem _ hx, by simp, hnb, fun x hx => ⟨hlo x hx, by have := hlt x hx; omega⟩, ⟨by omega, by omega⟩, Nat.le_refl _, fun j hj => ?_, fun j hj => ?_, ⟨some ⟨g3, 0, none⟩, rs.length, by rw [hX, World.cell?_alloc_new]; rfl, fun k hkl => ⟨g3, rfl, by omega, by omega, fun q => ?_, ?_⟩⟩, ⟨na, nc, by rw [hX, World.cell?_alloc_new]; rfl, fun k hkl => ?_⟩, by rw [hX, World.cell?_alloc_new]; rfl, fun j => by rw [hX]; exact World.frozen?_alloc_new _ _ _ _, World.ownsRow_nil _ _ _ _⟩
  · rw [numQ_nil]
    exact (hX4.one.at' j hj (by rw [h.len]; exact hj)).1
  · obtain ⟨g, c, e, h0, h1, h2, h4⟩ := hX4.names j hj hj
    refine ⟨some ⟨g, 0, none⟩, c, e, fun k hkl => ⟨g, rfl, h0, h1, fun q => ?_, h4 k hkl⟩⟩
    rcases List.mem_cons.1 q with q | q
    · obtain ⟨g9, c9, e9, _, h91, _, _⟩ := h3.names j hj hj
      have hl := (h3.one.at' j hj (by rw [h.len]; exact hj)).1.lt
      rw [World.cell?_of_block (a := ⟨bs.getD j 0, 2, none⟩) (hk _ hl), e9] at e
      simp only [Option.some.injEq, Value.slice.injEq, Addr.mk.injEq, and_true] at e
      have := e.1
      omega
    · exact h2 q
  · rcases List.mem_cons.1 q with q | q
    · omega
    · have := h.one.lt _ q
      omega
  · rw [World.cell?_of_block (a := ⟨g3, k, none⟩) (hk g3 hg3l)]; exact hr k hkl
  · obtain ⟨g, e, h0, h1, h2, h4⟩ := h3.one.nds k (by rw [h.len]; rw [ones_len] at hkl; exact hkl)
    refine ⟨g, e, h0, by omega, fun q => ?_, ?_⟩
    · rcases List.mem_cons.1 q with q | q
      · omega
      · exact h2 q
    · rw [World.cell?_of_block (a := ⟨g, k, none⟩) (hk g h1), h4, ones_at, ptrOf_one]
theorem Sr.shape {xs : List ByteArray} {rs : List Int} {ns : List Nd} {bs : List Nat} {va : Nat → Value} {sh : List Nat} {B F sb : Nat} {vf : Value} {Q : List Int} {w : World} (h : Sr xs rs ns bs va sh B F sb vf Q w) : ∃ a cap, vf = .slice a Q.length cap ∧ ∀ i (hi : i < Q.length), ∃ g, a = some ⟨g, 0, none⟩ ∧ w.cell? ⟨g, i, none⟩ = some (ptr (bs.getD Q[i].toNat 0)) := by
  have h1 := h.row
  rw [show Q.length = (Q.map fun p => ptr (bs.getD p.toNat 0)).length by simp] at h1
  obtain ⟨a, g, cap, e, _, hc⟩ := vals_of_row h1
  rw [List.length_map] at e
  refine ⟨a, cap, e, fun i hi => ?_⟩
  obtain ⟨q1, q2, _⟩ := hc i (by simpa using hi)
  exact ⟨g, q1, by rw [q2]; simp⟩
set_option maxHeartbeats 4000000 in
set_option maxRecDepth 20000 in
theorem searched_no (w : World) (a : Option Addr) (cap : Nat) (xs : List ByteArray) (b : Option Addr) (vc : Nat) (rs : List Int) (c : Option Addr) (cc : Nat) (ns : List Nd) (hn : xs.length ≤ 1048576) (hz : ∀ i (hi : i < xs.length), xs[i].size ≤ 1048576) (hrl : rs.length ≤ 1048576) (hnl : ns.length ≤ 1048576) (hl : Strs w a xs) (hr : Nums w b rs) (hg : Nodes w c ns) (hok : graphB xs rs ns = false) :
    Calls Try.prog 43 #[.slice a xs.length cap, .agg #[.slice b rs.length vc, .slice c ns.length cc]] w fun e w' => e = .returned (.tuple #[.agg #[.slice none 0 0, .slice none 0 0, .slice none 0 0], .bool false]) ∧ Below w.heap.size w w' := by
  obtain ⟨W, hW⟩ : ∃ W, W = (w.alloc (.cells #[.slice b rs.length vc, .slice c ns.length cc] 33)).alloc (.cells #[.slice none 0 0, .slice none 0 0, .slice none 0 0] 60) := ⟨_, rfl⟩
  have HW : Hid (W = (w.alloc (.cells #[.slice b rs.length vc, .slice c ns.length cc] 33)).alloc (.cells #[.slice none 0 0, .slice none 0 0, .slice none 0 0] 60)) := hW
  have hb0 : Below w.heap.size w W := by rw [hW]; exact ((Below.refl _ _).alloc (Nat.le_refl _) _).alloc (by simp) _
  have HB0 : Hid (Below w.heap.size w W) := hb0
  have hsz : W.heap.size = w.heap.size + 2 := by rw [hW]; simp
  have k0 : W.cell? ⟨w.heap.size, 0, none⟩ = some (.slice b rs.length vc) := by rw [hW, World.cell?_alloc_past _ _ _ (by simp), World.cell?_alloc_at _ _ _ _ (by simp)]; rfl
  have k1 : W.cell? ⟨w.heap.size, 1, none⟩ = some (.slice c ns.length cc) := by rw [hW, World.cell?_alloc_past _ _ _ (by simp), World.cell?_alloc_at _ _ _ _ (by simp)]; rfl
  have r0 : ∀ j, j < 3 → W.cell? ⟨w.heap.size + 1, j, none⟩ = some (.slice none 0 0) ∧ W.frozen? ⟨w.heap.size + 1, j, none⟩ = false := fun j hj => ⟨by rw [hW, World.cell?_alloc_at _ _ _ _ (by simp)]; match j, hj with | 0, _ => rfl | 1, _ => rfl | 2, _ => rfl, by rw [hW, World.frozen?_alloc_at _ _ _ _ (by simp)]⟩
  have HR : Hid (∀ w', Below W.heap.size W w' → ∀ j, j < 3 → w'.cell? ⟨w.heap.size + 1, j, none⟩ = some (.slice none 0 0) ∧ w'.frozen? ⟨w.heap.size + 1, j, none⟩ = false) := fun w' h j hj => ⟨by rw [h.cell (p := ⟨w.heap.size + 1, j, none⟩) (by show w.heap.size + 1 < _; omega)]; exact (r0 j hj).1, by rw [h.frozen (p := ⟨w.heap.size + 1, j, none⟩) (by show w.heap.size + 1 < _; omega)]; exact (r0 j hj).2⟩
  have HGO : Hid (Calls _ _ _ W _) := impl_graphok W a cap xs b vc rs c cc ns hn hz hrl hnl (hl.below hb0) (hr.below hb0) (hg.below hb0)
  rw [hok] at HGO
  clear hW hb0 hsz r0 hl hr hg hok hn hz hrl hnl
  go_enter Try.func43, Try.ntmps43
  go_wp2_with (rw [← HW.out])
  refine HGO.out.mono ?_
  rintro e w2 ⟨rfl, hb2⟩
  have HB2 : Hid (Below W.heap.size W w2) := hb2
  obtain ⟨q0, z0⟩ := HR.out w2 hb2 0 (by omega)
  obtain ⟨q1, z1⟩ := HR.out w2 hb2 1 (by omega)
  obtain ⟨q2, z2⟩ := HR.out w2 hb2 2 (by omega)
  have HT : Hid (∀ x0 x1 x2, _) := tri_set q0 q1 q2
  have HBE : Hid (∀ x0 x1 x2, Below w.heap.size w (((w2.setCell ⟨w.heap.size + 1, 0, none⟩ x0).setCell ⟨w.heap.size + 1, 1, none⟩ x1).setCell ⟨w.heap.size + 1, 2, none⟩ x2)) := fun x0 x1 x2 => (((HB0.out.trans (HB2.out.mono HB0.out.size)).setCell (p := ⟨w.heap.size + 1, 0, none⟩) (by show w.heap.size ≤ w.heap.size + 1; omega) _).setCell (p := ⟨w.heap.size + 1, 1, none⟩) (by show w.heap.size ≤ w.heap.size + 1; omega) _).setCell (p := ⟨w.heap.size + 1, 2, none⟩) (by show w.heap.size ≤ w.heap.size + 1; omega) _
  clear hb2 k0 k1
  go_wp2
  refine bodyPost_ret (v := .tuple #[.agg #[.slice none 0 0, .slice none 0 0, .slice none 0 0], .bool false]) ?_ rfl ⟨rfl, HBE.out _ _ _⟩
  obtain ⟨e0, e1, e2⟩ := HT.out (.slice none 0 0) (.slice none 0 0) (.slice none 0 0)
  simp [results, Try.results43, go_sem, e0, e1, e2]
/-- What a search answers that has a right graph. -/
def SAns (xs : List ByteArray) (rs : List Int) (ns : List Nd) (w : World) (e : Ending) (w' : World) : Prop :=
  ∃ bs va sh F sb vf a0 c0 a1 c1, e = .returned (.tuple #[.agg #[.slice a0 rs.length c0, .slice a1 ns.length c1, vf], .bool true]) ∧ Sr xs rs ns bs va sh (w.heap.size + 2) F sb vf (foundG xs rs ns) w' ∧ Still w' bs sh (w.heap.size + 2) F a0 rs ∧ Still w' bs sh (w.heap.size + 2) F a1 (ones ns.length) ∧ (∀ j (hj : j < ns.length), ∃ ai ci, va j = .slice ai ns[j].2.length ci ∧ ∀ w'', Below w.heap.size w w'' → Nums w'' ai ns[j].2) ∧ Below w.heap.size w w'
set_option maxHeartbeats 4000000 in
set_option maxRecDepth 20000 in
theorem searched_yes (w : World) (a : Option Addr) (cap : Nat) (xs : List ByteArray) (b : Option Addr) (vc : Nat) (rs : List Int) (c : Option Addr) (cc : Nat) (ns : List Nd) (hn : xs.length ≤ 1048576) (hz : ∀ i (hi : i < xs.length), xs[i].size ≤ 1048576) (hl : Strs w a xs) (hr : Nums w b rs) (hg : Nodes w c ns) (hok : graphB xs rs ns = true) :
    Calls Try.prog 43 #[.slice a xs.length cap, .agg #[.slice b rs.length vc, .slice c ns.length cc]] w fun e w' => SAns xs rs ns w e w' := by
  obtain ⟨htp, h40, h400, hin, hnd⟩ := graph_facts hok
  obtain ⟨W, hW⟩ : ∃ W, W = (w.alloc (.cells #[.slice b rs.length vc, .slice c ns.length cc] 33)).alloc (.cells #[.slice none 0 0, .slice none 0 0, .slice none 0 0] 60) := ⟨_, rfl⟩
  have HW : Hid (W = (w.alloc (.cells #[.slice b rs.length vc, .slice c ns.length cc] 33)).alloc (.cells #[.slice none 0 0, .slice none 0 0, .slice none 0 0] 60)) := hW
  have hb0 : Below w.heap.size w W := by rw [hW]; exact ((Below.refl _ _).alloc (Nat.le_refl _) _).alloc (by simp) _
  have HB0 : Hid (Below w.heap.size w W) := hb0
  have hsz : W.heap.size = w.heap.size + 2 := by rw [hW]; simp
  have HSZ : Hid (W.heap.size = w.heap.size + 2) := hsz
  have k0 : W.cell? ⟨w.heap.size, 0, none⟩ = some (.slice b rs.length vc) := by rw [hW, World.cell?_alloc_past _ _ _ (by simp), World.cell?_alloc_at _ _ _ _ (by simp)]; rfl
  have k1 : W.cell? ⟨w.heap.size, 1, none⟩ = some (.slice c ns.length cc) := by rw [hW, World.cell?_alloc_past _ _ _ (by simp), World.cell?_alloc_at _ _ _ _ (by simp)]; rfl
  have HCS : Hid (∀ w', Below W.heap.size W w' → w'.cell? ⟨w.heap.size, 0, none⟩ = some (.slice b rs.length vc) ∧ w'.cell? ⟨w.heap.size, 1, none⟩ = some (.slice c ns.length cc)) := fun w' h =>
    ⟨by rw [h.cell (p := ⟨w.heap.size, 0, none⟩) (by show w.heap.size < _; omega)]; exact k0, by rw [h.cell (p := ⟨w.heap.size, 1, none⟩) (by show w.heap.size < _; omega)]; exact k1⟩
  have r0 : ∀ j, j < 3 → W.cell? ⟨w.heap.size + 1, j, none⟩ = some (.slice none 0 0) ∧ W.frozen? ⟨w.heap.size + 1, j, none⟩ = false := fun j hj => ⟨by rw [hW, World.cell?_alloc_at _ _ _ _ (by simp)]; match j, hj with | 0, _ => rfl | 1, _ => rfl | 2, _ => rfl, by rw [hW, World.frozen?_alloc_at _ _ _ _ (by simp)]⟩
  have HR : Hid (∀ w', Below W.heap.size W w' → ∀ j, j < 3 → w'.cell? ⟨w.heap.size + 1, j, none⟩ = some (.slice none 0 0) ∧ w'.frozen? ⟨w.heap.size + 1, j, none⟩ = false) := fun w' h j hj => ⟨by rw [h.cell (p := ⟨w.heap.size + 1, j, none⟩) (by show w.heap.size + 1 < _; omega)]; exact (r0 j hj).1, by rw [h.frozen (p := ⟨w.heap.size + 1, j, none⟩) (by show w.heap.size + 1 < _; omega)]; exact (r0 j hj).2⟩
  have HGO : Hid (Calls _ _ _ W _) := impl_graphok W a cap xs b vc rs c cc ns hn hz (by omega) (by omega) (hl.below hb0) (hr.below hb0) (hg.below hb0)
  rw [hok] at HGO
  have HLK : Hid (∀ w', Below W.heap.size W w' → Calls _ _ _ w' _) := fun w' h => linked_any w' a cap xs b vc rs c cc ns hok hn ((hl.below hb0).below h) ((hg.below hb0).below h)
  have HRN : Hid (∀ w', Below W.heap.size W w' → Nums w' b rs) := fun w' h => (hr.below hb0).below h
  have HVN : Hid (∀ i (hi : i < ns.length), ∃ (b2 off : Nat) (ai : Option Addr) (ci : Nat), c = some ⟨b2, off, none⟩ ∧ ∀ w', Below w.heap.size w w' → w'.cell? ⟨b2, off + i * 2, none⟩ = some (.int .i64 ns[i].1) ∧ w'.cell? ⟨b2, off + i * 2 + 1, none⟩ = some (.slice ai ns[i].2.length ci) ∧ Nums w' ai ns[i].2) := fun i hi => nodes_later hg i hi
  have HIN : Hid (allIn ns.length rs = true) := hin
  have HNR : Hid (∀ i (hi : i < ns.length), allIn ns.length (nmA xs ns[i]) = true) := fun i hi => node_refs hnd hi
  have HGG : Hid (∀ r, GoodG ns.length r → ∀ y ∈ nmG xs ns r, GoodG ns.length y) := fun r q => nmG_good hnd q
  have HNF : Hid (∀ i (hi : i < ns.length), ns[i].2.length ≤ 23) := fun i hi => by
    obtain ⟨_, _, _, _, _, h, _⟩ := node_fits htp hnd hi
    exact h
  have HWK : Hid (Wk (GoodG ns.length) (nmG xs ns) ns.length (foundG xs rs ns) 0 (findN [] (pl rs))) := Wk.start (pl_good hin)
  have HAN : Hid (SAns xs rs ns w = fun e w' => SAns xs rs ns w e w') := rfl
  clear hW hb0 hsz r0 hl hr hg hok hn hz htp hin hnd
  go_enter Try.func43, Try.ntmps43
  go_wp2_with (rw [← HW.out])
  refine HGO.out.mono ?_
  rintro e w2 ⟨rfl, hb2⟩
  have HB2 : Hid (Below W.heap.size W w2) := hb2
  clear hb2 k0 k1
  obtain ⟨k0, k1⟩ := HCS.out w2 HB2.out
  go_wp2_with fail
  refine (HLK.out w2 HB2.out).mono ?_
  rintro e w3 ⟨na, nc, bs, va, rfl, hlk, hva⟩
  have HL3 : Hid (Lk2 w2.heap.size bs va xs ns (.slice na ns.length nc) ns.length w2 w3) := hlk
  have HB3 : Hid (Below W.heap.size W w3) := HB2.out.trans (hlk.one.bel.mono HB2.out.size)
  have HVA : Hid (∀ j (hj : j < ns.length), ∃ ai ci, va j = .slice ai ns[j].2.length ci ∧ ∀ w'', Below w.heap.size w w'' → Nums w'' ai ns[j].2) := fun j hj => by
    obtain ⟨b2, off, ai, ci, e, hc⟩ := HVN.out j hj
    obtain ⟨b3, off3, e3, hc3⟩ := hva j hj
    rw [e] at e3
    simp only [Option.some.injEq, Addr.mk.injEq, and_true] at e3
    obtain ⟨rfl, rfl⟩ := e3
    have h1 := (hc w2 (HB0.out.trans (HB2.out.mono HB0.out.size))).2.1
    rw [hc3] at h1
    exact ⟨ai, ci, Option.some.inj h1, fun w'' hb => (hc w'' hb).2.2⟩
  clear hlk hva k0 k1
  obtain ⟨k0, k1⟩ := HCS.out w3 HB3.out
  have hbl := HL3.out.len
  have HNM : Hid (Calls _ _ _ w3 _) := named_any w3 na nc bs b vc rs.length rs rfl (by omega) (by omega) (fun k hk => by
    obtain ⟨g, e, _, _, _, hc⟩ := HL3.out.one.nds k hk
    exact ⟨g, e, hc⟩) (HRN.out w3 HB3.out) (by rw [hbl]; exact HIN.out)
  rw [hbl] at HNM
  clear hbl
  go_wp2_with fail
  refine HNM.out.mono ?_
  rintro e w4 ⟨g4, rfl, hg4, hgl4, hr4, hb4⟩
  have HB4 : Hid (Below W.heap.size W w4) := HB3.out.trans (hb4.mono HB3.out.size)
  obtain ⟨X, hX⟩ : ∃ X, X = w4.alloc (.cells #[.slice (some ⟨g4, 0, none⟩) rs.length rs.length, .slice na ns.length nc, .slice none 0 0] 60) := ⟨_, rfl⟩
  obtain ⟨sb, hsb⟩ : ∃ s, s = w4.heap.size := ⟨_, rfl⟩
  have hst := Sr.start HL3.out hb4 hg4 hgl4 hr4 60 hX
  have hbX : Below w4.heap.size w4 X := by rw [hX]; exact (Below.refl _ _).alloc (Nat.le_refl _) _
  have HX : Hid (X = w4.alloc (.cells #[.slice (some ⟨g4, 0, none⟩) rs.length rs.length, .slice na ns.length nc, .slice none 0 0] 60)) := hX
  have HSB : Hid (sb = w4.heap.size) := hsb
  have HBX : Hid (Below W.heap.size W X) := HB4.out.trans (hbX.mono HB4.out.size)
  rw [← hsb] at hst
  obtain ⟨F, hF⟩ : ∃ F, F = X.heap.size := ⟨_, rfl⟩
  rw [← hF] at hst
  have hst2 : Sr xs rs ns bs va (sb :: bs) W.heap.size F sb (.slice none 0 0) [] X := ⟨hst.inj, hst.len, hst.shb, hst.shs, hst.sbn, fun x hx => ⟨Nat.le_trans HB2.out.size (hst.lob x hx).1, (hst.lob x hx).2⟩, ⟨Nat.le_trans HB2.out.size hst.los.1, hst.los.2⟩, hst.siz, hst.at', fun j hj => by
    obtain ⟨a, c, e, h⟩ := hst.nm j hj
    exact ⟨a, c, e, h.mono HB2.out.size⟩, by
    obtain ⟨a, c, e, h⟩ := hst.s0
    exact ⟨a, c, e, h.mono HB2.out.size⟩, by
    obtain ⟨a, c, e, h⟩ := hst.s1
    exact ⟨a, c, e, h.mono HB2.out.size⟩, hst.s2, hst.sf, hst.row⟩
  have HST : Hid (Sr xs rs ns bs va (sb :: bs) W.heap.size F sb (.slice none 0 0) [] X) := hst2
  obtain ⟨a0, c0, x0, hS0⟩ := hst2.s0
  have HF0 : Hid (Calls _ _ _ X _) := find_any X xs rs ns bs va (sb :: bs) W.heap.size F sb (.slice none 0 0) [] hst2 h400 List.nodup_nil (fun p hp => by cases hp) a0 rs.length c0 rs rfl (by omega) hS0 HIN.out
  have e0 : X.cell? ⟨sb, 0, none⟩ = some (.slice (some ⟨g4, 0, none⟩) rs.length rs.length) := by rw [hX, hsb, World.cell?_alloc_new]; rfl
  rw [x0] at e0
  have e1 := Option.some.inj e0
  simp only [Value.slice.injEq] at e1
  obtain ⟨ha0, _, hc0⟩ := e1
  rw [ha0, hc0] at HF0 x0
  clear hg4 hgl4 hr4 hb4 hX hsb hst hst2 hbX hS0 e0 ha0 hc0 k0 k1 hF HNM HLK HGO
  go_wp2_with (first | (rw [← HX.out, ← HSB.out]) | (rw [← HX.out]))
  refine HF0.out.mono ?_
  rintro e w5 ⟨vg, rfl, hs5, hk5, hb5⟩
  have HS5 : Hid (Sr xs rs ns bs va (sb :: bs) W.heap.size F sb vg (findN [] (pl rs)) w5) := hs5
  have HB5 : Hid (Below W.heap.size W w5) := HBX.out.trans hb5
  clear hs5 hk5 hb5 x0
  go_wp2
  go_loopw [8] (fun i wr => ∃ (k : Nat) (Q : List Int) (vg : Value), k ≤ Q.length ∧ i = .int .i64 (k : Int) ∧ Wk (GoodG ns.length) (nmG xs ns) ns.length (foundG xs rs ns) k Q ∧ Sr xs rs ns bs va (sb :: bs) W.heap.size F sb vg Q wr ∧ Below W.heap.size W wr) (fun i _ => ns.length - (intOf i).toNat)
  case atStart => exact ⟨0, _, vg, Nat.zero_le _, rfl, HWK.out, HS5.out, HB5.out⟩
  case round =>
    clear HS5 HB5 HWK HST HBX HX HSB HF0 HB4 HB3 HL3
    obtain ⟨k, Q, vq, hk, rfl, hwk, hs, hb⟩ := hrel
    have HWK : Hid (Wk (GoodG ns.length) (nmG xs ns) ns.length (foundG xs rs ns) k Q) := hwk
    have HB : Hid (Below W.heap.size W wr) := hb
    have hql := good_len hwk.nd hwk.good
    have HQL : Hid (Q.length ≤ ns.length) := hql
    obtain ⟨aq, cq, rfl, hq⟩ := hs.shape
    have HS : Hid (Sr xs rs ns bs va (sb :: bs) W.heap.size F sb (.slice aq Q.length cq) Q wr) := hs
    have s2 := hs.s2
    clear hs hb hwk
    by_cases hlt : k < Q.length
    · have hlti : (k : Int) < (Q.length : Int) := by omega
      have hk0 : (0 : Int) ≤ (k : Int) := by omega
      have hk4 : k ≤ 400 := by omega
      have HKN : Hid (k < Q.length) := hlt
      have hgr := HWK.out.good _ (List.getElem_mem hlt)
      have HNX : Hid (Wk (GoodG ns.length) (nmG xs ns) ns.length (foundG xs rs ns) (k + 1) (findN Q (nmG xs ns Q[k]))) := HWK.out.step hlt hql HGG.out
      obtain ⟨gq, rfl, e5⟩ := hq k hlt
      generalize Q[k] = p at e5 HNX hgr
      obtain ⟨p0, pn⟩ := hgr
      obtain ⟨i, rfl⟩ := Int.eq_ofNat_of_zero_le p0
      have hin : i < ns.length := by omega
      rw [Int.toNat_natCast] at e5
      have hnm : nmG xs ns (i : Int) = pl (nmA xs ns[i]) := by
        unfold nmG
        rw [Int.toNat_natCast, nd_at hin]
      rw [hnm] at HNX
      obtain ⟨an, cn, e6, hst⟩ := HS.out.nm i hin
      have hall := HNR.out i hin
      have hll : (nmA xs ns[i]).length ≤ ns[i].2.length := refsL_len _ _ _
      have h23 := (HNF.out i hin)
      have HFD : Hid (Calls _ _ _ wr _) := find_any wr xs rs ns bs va (sb :: bs) W.heap.size F sb (.slice (some ⟨gq, 0, none⟩) Q.length cq) Q HS.out h400 HWK.out.nd HWK.out.good an (nmA xs ns[i]).length cn (nmA xs ns[i]) rfl (by omega) hst hall
      have HNX : Hid (Wk (GoodG ns.length) (nmG xs ns) ns.length (foundG xs rs ns) (k + 1) (findN Q (pl (nmA xs ns[i])))) := HNX
      generalize nmA xs ns[i] = L at e6 HFD HNX
      generalize L.length = nl at e6 HFD
      generalize bs.getD i 0 = nb at e5 e6
      have e7 : wr.cell? ⟨gq, k, none⟩ = some (.pointer (some ⟨nb, 0, none⟩)) := e5
      clear e5 p0 pn hnm hst hall hll h23 hq hlt hk hql
      go_wp2_with fail
      refine HFD.out.mono ?_
      rintro e w6 ⟨v6, rfl, hs6, _, hb6⟩
      have HS6 : Hid (Sr xs rs ns bs va (sb :: bs) W.heap.size F sb v6 (findN Q (pl L)) w6) := hs6
      have HB6 : Hid (Below W.heap.size W w6) := HB.out.trans hb6
      have HLE : Hid (k + 1 ≤ (findN Q (pl L)).length) := by
        have h1 := findN_len (pl L) Q
        have h2 := HKN.out
        show k + 1 ≤ _
        omega
      clear hs6 hb6 e6 e7 s2
      go_wp2
      go_roundw
      case rel => exact ⟨k + 1, _, v6, HLE.out, by go_num, HNX.out, HS6.out, HB6.out⟩
      case measure => have := HKN.out; have := HQL.out; simp [intOf]; omega
    · have hQR : Q = foundG xs rs ns := HWK.out.stop (by omega)
      have HQR : Hid (Q = foundG xs rs ns) := hQR
      have hnl : ¬ (k : Int) < (Q.length : Int) := by omega
      obtain ⟨a0, c0, s0, hS0⟩ := HS.out.s0
      obtain ⟨a1, c1, s1, hS1⟩ := HS.out.s1
      have HST0 : Hid (Still wr bs (sb :: bs) W.heap.size F a0 rs) := hS0
      have HST1 : Hid (Still wr bs (sb :: bs) W.heap.size F a1 (ones ns.length)) := hS1
      obtain ⟨q0, z0⟩ := HR.out wr HB.out 0 (by omega)
      obtain ⟨q1, z1⟩ := HR.out wr HB.out 1 (by omega)
      obtain ⟨q2, z2⟩ := HR.out wr HB.out 2 (by omega)
      have HT : Hid (∀ x0 x1 x2, _) := tri_set q0 q1 q2
      have HBE : Hid (∀ x0 x1 x2, Below w.heap.size w (((wr.setCell ⟨w.heap.size + 1, 0, none⟩ x0).setCell ⟨w.heap.size + 1, 1, none⟩ x1).setCell ⟨w.heap.size + 1, 2, none⟩ x2)) := fun x0 x1 x2 => (((HB0.out.trans (HB.out.mono HB0.out.size)).setCell (p := ⟨w.heap.size + 1, 0, none⟩) (by show w.heap.size ≤ w.heap.size + 1; omega) _).setCell (p := ⟨w.heap.size + 1, 1, none⟩) (by show w.heap.size ≤ w.heap.size + 1; omega) _).setCell (p := ⟨w.heap.size + 1, 2, none⟩) (by show w.heap.size ≤ w.heap.size + 1; omega) _
      clear hQR hS0 hS1 hlt hq hql hk
      go_wp2
      refine bodyPost_ret (v := .tuple #[.agg #[.slice a0 rs.length c0, .slice a1 ns.length c1, .slice aq Q.length cq], .bool true]) ?_ rfl ?_
      · obtain ⟨e0, e1, e2⟩ := HT.out (.slice a0 rs.length c0) (.slice a1 ns.length c1) (.slice aq Q.length cq)
        simp [results, Try.results43, go_sem, e0, e1, e2]
      · have hlo : w.heap.size + 1 < W.heap.size := by have := HSZ.out; omega
        have h1 := ((HS.out.low hlo 0 (.slice a0 rs.length c0)).low hlo 1 (.slice a1 ns.length c1)).low hlo 2 (.slice aq Q.length cq)
        have h2 := ((HST0.out.low hlo 0 (.slice a0 rs.length c0)).low hlo 1 (.slice a1 ns.length c1)).low hlo 2 (.slice aq Q.length cq)
        have h3 := ((HST1.out.low hlo 0 (.slice a0 rs.length c0)).low hlo 1 (.slice a1 ns.length c1)).low hlo 2 (.slice aq Q.length cq)
        rw [HSZ.out] at h1 h2 h3
        have h4 := HQR.out
        exact ⟨bs, va, sb :: bs, F, sb, _, a0, c0, a1, c1, rfl, h4 ▸ h1, h2, h3, HVA.out, HBE.out _ _ _⟩
end Go.Proofs.Ythjfgibflbbgmaa.gs
