/-
  Graphs: a graph copied; its size; held against its like.
-/
import Derived.Test.YthjfgibflbbgmaaGr2
namespace Go.Proofs.Ythjfgibflbbgmaa.gr
open Go.RowKit
open kinds ints obj

set_option maxRecDepth 20000 in
theorem CopyAt.grown {w w' : World} {g o r : Nat} {x : Nd} (h : CopyAt w g g o x) (hg : w.grownBy w' (some r)) (hr : r < g) : CopyAt w' g g o x := by
  obtain ⟨h0, gi, h1, h2, h3, h4⟩ := h
  have hb := hg.block g (World.block_lt_of_cell? w _ h0) (fun e => by have := Option.some.inj e; omega)
  exact ⟨by rw [World.cell?_of_block (a := ⟨g, o, none⟩) hb]; exact h0, gi, by rw [World.cell?_of_block (a := ⟨g, o + 1, none⟩) hb]; exact h1, h2.grown hg (by omega), h3, by rw [World.frozen?_of_block (a := ⟨g, o, none⟩) hb]; exact h4⟩
set_option maxRecDepth 20000 in
theorem Copies.grown {w w' : World} {g r : Nat} {ns : List Nd} (h : Copies w g ns) (hg : w.grownBy w' (some r)) (hr : r < g) : Copies w' g ns := fun i hi => (h i hi).grown hg hr
set_option maxHeartbeats 1000000 in
set_option maxRecDepth 20000 in
theorem toGraph_lo (w : World) (b : Option Addr) (vc : Nat) (rs : List Int) (a : Option Addr) (c : Nat) (ns : List Nd) (hr : rs.length ≤ 1048576) (hn : ns.length ≤ 1048576) (hz : ∀ x ∈ ns, x.2.length ≤ 1048576) (h1 : Nums w b rs) (h2 : Nodes w a ns) :
    Calls Try.prog 14 #[.agg #[.slice b rs.length vc, .slice a ns.length c]] w fun e w' => ∃ gr gn : Nat, e = .returned (.agg #[.slice (some ⟨gr, 0, none⟩) rs.length rs.length, .slice (some ⟨gn, 0, none⟩) ns.length ns.length]) ∧ (w.heap.size ≤ gr ∧ gr < gn ∧ gn < w'.heap.size) ∧ Ints w' (some ⟨gr, 0, none⟩) gr rs ∧ Copies w' gn ns ∧ Below w.heap.size w w' := by
  have HN1 : Hid (Nums w b rs) := h1
  have HN2 : Hid (Nodes w a ns) := h2
  obtain ⟨W, hW⟩ : ∃ W, W = ((w.alloc (.cells #[.slice b rs.length vc, .slice a ns.length c] 26)).alloc (.cells #[.slice none 0 0, .slice none 0 0] 33)).alloc (.cells #[.slice none 0 0, .slice none 0 0] 33) := ⟨_, rfl⟩
  have HB0 : Hid (Below w.heap.size w W) := by
    have h1 : Below w.heap.size w W := by rw [hW]; go_grown
    exact h1
  have hsz : W.heap.size = w.heap.size + 3 := by rw [hW]; simp
  have f0 : ∀ o, W.cell? ⟨w.heap.size, o, none⟩ = (#[Value.slice b rs.length vc, .slice a ns.length c] : Array Value)[o]? := fun o => by
    rw [hW, World.cell?_alloc_past _ _ _ (by simp; omega), World.cell?_alloc_past _ _ _ (by simp), World.cell?_alloc_at _ _ _ _ (by simp)]
  have f1 : ∀ o, W.cell? ⟨w.heap.size + 1, o, none⟩ = (#[Value.slice none 0 0, .slice none 0 0] : Array Value)[o]? := fun o => by
    rw [hW, World.cell?_alloc_past _ _ _ (by simp), World.cell?_alloc_at _ _ _ _ (by simp)]
  have f2 : ∀ o, W.cell? ⟨w.heap.size + 1 + 1, o, none⟩ = (#[Value.slice none 0 0, .slice none 0 0] : Array Value)[o]? := fun o => by
    rw [hW, World.cell?_alloc_at _ _ _ _ (by simp)]
  have z1 : ∀ o, W.frozen? ⟨w.heap.size + 1, o, none⟩ = false := fun o => by rw [hW, World.frozen?_alloc_past _ _ _ (by simp), World.frozen?_alloc_at _ _ _ _ (by simp)]
  have z2 : ∀ o, W.frozen? ⟨w.heap.size + 1 + 1, o, none⟩ = false := fun o => by rw [hW, World.frozen?_alloc_at _ _ _ _ (by simp)]
  have HW : Hid (W = ((w.alloc (.cells #[.slice b rs.length vc, .slice a ns.length c] 26)).alloc (.cells #[.slice none 0 0, .slice none 0 0] 33)).alloc (.cells #[.slice none 0 0, .slice none 0 0] 33)) := hW
  clear hW h1 h2
  have k0 : W.cell? ⟨w.heap.size, 0, none⟩ = some (.slice b rs.length vc) := by rw [f0]; rfl
  have HTO : Hid (∀ w', Nodes w' a ns → Calls _ _ _ w' _) := fun w' h => toObjS_any w' a c ns.length ns rfl hn hz h
  have HF0 : Hid (∀ o, W.cell? ⟨w.heap.size, o, none⟩ = (#[Value.slice b rs.length vc, .slice a ns.length c] : Array Value)[o]?) := f0
  have HF1 : Hid (∀ o, W.cell? ⟨w.heap.size + 1, o, none⟩ = (#[Value.slice none 0 0, .slice none 0 0] : Array Value)[o]?) := f1
  have HF2 : Hid (∀ o, W.cell? ⟨w.heap.size + 1 + 1, o, none⟩ = (#[Value.slice none 0 0, .slice none 0 0] : Array Value)[o]?) := f2
  have HZ1 : Hid (∀ o, W.frozen? ⟨w.heap.size + 1, o, none⟩ = false) := z1
  have HZ2 : Hid (∀ o, W.frozen? ⟨w.heap.size + 1 + 1, o, none⟩ = false) := z2
  have HSZ : Hid (W.heap.size = w.heap.size + 3) := hsz
  clear f0 f1 f2 z1 z2 hsz hz
  obtain ⟨m, hm⟩ : ∃ m, m = ns.length := ⟨_, rfl⟩
  rw [← hm] at HTO HW HF0 ⊢
  clear hm hn
  go_enter Try.func14, Try.ntmps14
  go_wp2_with fail
  rw [← HW.out]
  refine (toInt64S_any W b vc rs hr (HN1.out.below HB0.out)).mono ?_
  rintro e w2 ⟨g, rfl, hg, hg2, hl2, hb2⟩
  have hsz := HSZ.out
  have p0 : w2.cell? ⟨w.heap.size + 1 + 1, 0, none⟩ = some (.slice none 0 0) := by rw [hb2.cell (p := ⟨w.heap.size + 1 + 1, 0, none⟩) (by show w.heap.size + 1 + 1 < _; omega), HF2.out]; rfl
  have y0 : w2.frozen? ⟨w.heap.size + 1 + 1, 0, none⟩ = false := by rw [hb2.frozen (p := ⟨w.heap.size + 1 + 1, 0, none⟩) (by show w.heap.size + 1 + 1 < _; omega), HZ2.out]
  obtain ⟨X, hX⟩ : ∃ X, X = w2.setCell ⟨w.heap.size + 1 + 1, 0, none⟩ (.slice (some ⟨g, 0, none⟩) rs.length rs.length) := ⟨_, rfl⟩
  have HX : Hid (X = w2.setCell ⟨w.heap.size + 1 + 1, 0, none⟩ (.slice (some ⟨g, 0, none⟩) rs.length rs.length)) := hX
  have hgX : w2.grownBy X (some (w.heap.size + 1 + 1)) := by rw [hX]; exact grown_set _ _ _ _
  have hXs : X.heap.size = w2.heap.size := by rw [hX]; simp
  have hbX : Below w.heap.size w X := by rw [hX]; exact (HB0.out.trans (hb2.mono HB0.out.size)).setCell (p := ⟨w.heap.size + 1 + 1, 0, none⟩) (by show w.heap.size ≤ w.heap.size + 1 + 1; omega) _
  have hX0 : X.cell? ⟨w.heap.size + 1 + 1, 0, none⟩ = some (.slice (some ⟨g, 0, none⟩) rs.length rs.length) := by rw [hX]; exact World.cell?_setCell_same _ _ _ p0
  have oth : ∀ bb o, bb < w.heap.size + 3 → (bb, o) ≠ (w.heap.size + 1 + 1, 0) → X.cell? ⟨bb, o, none⟩ = W.cell? ⟨bb, o, none⟩ := fun bb o h1 h2 => by
    rw [hX, World.cell?_setCell_other _ _ _ _ (fun q => h2 (by simpa using congrArg (fun a : Addr => (a.block, a.off)) q.symm)), hb2.cell (p := ⟨bb, o, none⟩) (by show bb < _; omega)]
  have othf : ∀ bb o, bb < w.heap.size + 3 → X.frozen? ⟨bb, o, none⟩ = W.frozen? ⟨bb, o, none⟩ := fun bb o h1 => by
    rw [hX, World.frozen?_setCell, hb2.frozen (p := ⟨bb, o, none⟩) (by show bb < _; omega)]
  have HBX : Hid (Below w.heap.size w X) := hbX
  have HIX : Hid (Ints X (some ⟨g, 0, none⟩) g rs) := hl2.grown hgX (by omega)
  have HXS : Hid (w.heap.size + 3 ≤ X.heap.size) := by show w.heap.size + 3 ≤ X.heap.size; have := hb2.size; omega
  have HGG : Hid (w.heap.size + 3 ≤ g) := by show w.heap.size + 3 ≤ g; omega
  have HGX : Hid (g < X.heap.size) := by show g < X.heap.size; omega
  have x1 : X.cell? ⟨w.heap.size, 1, none⟩ = some (.slice a m c) := by rw [oth _ _ (by omega) (by simp), HF0.out]; rfl
  have HX0 : Hid (X.cell? ⟨w.heap.size + 1 + 1, 0, none⟩ = some (.slice (some ⟨g, 0, none⟩) rs.length rs.length)) := hX0
  have HX1 : Hid (X.cell? ⟨w.heap.size + 1 + 1, 1, none⟩ = some (.slice none 0 0) ∧ X.frozen? ⟨w.heap.size + 1 + 1, 1, none⟩ = false) := ⟨by rw [oth _ _ (by omega) (by simp), HF2.out]; rfl, by rw [othf _ _ (by omega), HZ2.out]⟩
  have HXR : Hid ((X.cell? ⟨w.heap.size + 1, 0, none⟩ = some (.slice none 0 0) ∧ X.cell? ⟨w.heap.size + 1, 1, none⟩ = some (.slice none 0 0)) ∧ X.frozen? ⟨w.heap.size + 1, 0, none⟩ = false ∧ X.frozen? ⟨w.heap.size + 1, 1, none⟩ = false) := ⟨⟨by rw [oth _ _ (by omega) (by simp), HF1.out]; rfl, by rw [oth _ _ (by omega) (by simp), HF1.out]; rfl⟩, by rw [othf _ _ (by omega), HZ1.out], by rw [othf _ _ (by omega), HZ1.out]⟩
  clear hX hgX hXs hbX hX0 oth othf hl2 hb2 hg hg2 hsz k0
  go_wp2_with (rw [← HX.out])
  refine (HTO.out X (HN2.out.below HBX.out)).mono ?_
  rintro e w4 ⟨gn, rfl, hn1, hn2, hcp, hb4⟩
  have hxs := HXS.out
  have low : ∀ bb o, bb < w.heap.size + 3 → w4.cell? ⟨bb, o, none⟩ = X.cell? ⟨bb, o, none⟩ := fun bb o h1 => hb4.cell (p := ⟨bb, o, none⟩) (by show bb < _; omega)
  have lowf : ∀ bb o, bb < w.heap.size + 3 → w4.frozen? ⟨bb, o, none⟩ = X.frozen? ⟨bb, o, none⟩ := fun bb o h1 => hb4.frozen (p := ⟨bb, o, none⟩) (by show bb < _; omega)
  have o0 : w4.cell? ⟨w.heap.size + 1 + 1, 0, none⟩ = some (.slice (some ⟨g, 0, none⟩) rs.length rs.length) := by rw [low _ _ (by omega)]; exact HX0.out
  have o1 : w4.cell? ⟨w.heap.size + 1 + 1, 1, none⟩ = some (.slice none 0 0) := by rw [low _ _ (by omega)]; exact HX1.out.1
  have v1 : w4.frozen? ⟨w.heap.size + 1 + 1, 1, none⟩ = false := by rw [lowf _ _ (by omega)]; exact HX1.out.2
  have r0 : w4.cell? ⟨w.heap.size + 1, 0, none⟩ = some (.slice none 0 0) := by rw [low _ _ (by omega)]; exact HXR.out.1.1
  have r1 : w4.cell? ⟨w.heap.size + 1, 1, none⟩ = some (.slice none 0 0) := by rw [low _ _ (by omega)]; exact HXR.out.1.2
  have u0 : w4.frozen? ⟨w.heap.size + 1, 0, none⟩ = false := by rw [lowf _ _ (by omega)]; exact HXR.out.2.1
  have u1 : w4.frozen? ⟨w.heap.size + 1, 1, none⟩ = false := by rw [lowf _ _ (by omega)]; exact HXR.out.2.2
  have HI4 : Hid (Ints w4 (some ⟨g, 0, none⟩) g rs) := HIX.out.below hb4
  have HC4 : Hid (Copies w4 gn ns) := hcp
  have HGN : Hid (w.heap.size + 3 ≤ gn ∧ g < gn ∧ gn < w4.heap.size) := by show w.heap.size + 3 ≤ gn ∧ g < gn ∧ gn < w4.heap.size; have := HGX.out; exact ⟨by omega, by omega, hn2⟩
  have HB4 : Hid (Below w.heap.size w w4) := HBX.out.trans (hb4.mono HBX.out.size)
  have HQ : Hid (_ ∧ _) := two_set (w := w4) (b := w.heap.size + 1) (c := w.heap.size + 1 + 1) (by omega) r0 r1 (.slice (some ⟨gn, 0, none⟩) m m) (.slice (some ⟨g, 0, none⟩) rs.length rs.length) (.slice (some ⟨gn, 0, none⟩) m m)
  clear low lowf hn1 hn2 hcp hb4 hxs p0 y0 x1
  go_wp2
  refine bodyPost_ret (v := .agg #[.slice (some ⟨g, 0, none⟩) rs.length rs.length, .slice (some ⟨gn, 0, none⟩) m m]) ?_ rfl ?_
  · obtain ⟨q0, q1⟩ := HQ.out
    simp [results, Try.results14, go_sem, q0, q1]
  · have hgn := HGN.out
    have hgg := HGG.out
    refine ⟨g, gn, rfl, ⟨by omega, by omega, by simp; omega⟩, ?_, ?_, ?_⟩
    · exact ((HI4.out.grown (grown_set _ _ _ _) (by omega)).grown (grown_set _ _ _ _) (by omega)).grown (grown_set _ _ _ _) (by omega)
    · exact ((HC4.out.grown (grown_set _ _ _ _) (by omega)).grown (grown_set _ _ _ _) (by omega)).grown (grown_set _ _ _ _) (by omega)
    · exact ((HB4.out.setCell (p := ⟨w.heap.size + 1 + 1, 1, none⟩) (by show w.heap.size ≤ w.heap.size + 1 + 1; omega) _).setCell (p := ⟨w.heap.size + 1, 0, none⟩) (by show w.heap.size ≤ w.heap.size + 1; omega) _).setCell (p := ⟨w.heap.size + 1, 1, none⟩) (by show w.heap.size ≤ w.heap.size + 1; omega) _
theorem toGraph_any (w : World) (b : Option Addr) (vc : Nat) (rs : List Int) (a : Option Addr) (c : Nat) (ns : List Nd) (hr : rs.length ≤ 1048576) (hn : ns.length ≤ 1048576) (hz : ∀ x ∈ ns, x.2.length ≤ 1048576) (h1 : Nums w b rs) (h2 : Nodes w a ns) :
    Calls Try.prog 14 #[.agg #[.slice b rs.length vc, .slice a ns.length c]] w fun e w' => ∃ gr gn : Nat, e = .returned (.agg #[.slice (some ⟨gr, 0, none⟩) rs.length rs.length, .slice (some ⟨gn, 0, none⟩) ns.length ns.length]) ∧ Ints w' (some ⟨gr, 0, none⟩) gr rs ∧ Copies w' gn ns ∧ Below w.heap.size w w' :=
  (toGraph_lo w b vc rs a c ns hr hn hz h1 h2).mono fun _ _ ⟨gr, gn, h0, _, h3⟩ => ⟨gr, gn, h0, h3⟩
end Go.Proofs.Ythjfgibflbbgmaa.gr
