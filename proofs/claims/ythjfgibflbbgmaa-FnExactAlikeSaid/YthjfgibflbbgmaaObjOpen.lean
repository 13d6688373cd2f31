/-
  Objects that are handed in: what they read as; their size, their copies, and that one is like itself.
-/
import Derived.Test.YthjfgibflbbgmaaStrsOpen
import Derived.Test.YthjfgibflbbgmaaIntsOpen
import Derived.Lib.SmallJoins
namespace Go.Proofs.Ythjfgibflbbgmaa.obj
open Go.RowKit Go.ChangeShapes Go.WideShapes Go.ChangeAt Go.Joins Go.Deep
open kinds ints

set_option maxRecDepth 20000 in
theorem nums_cells {H : Type} {enc : TypeId × Value → H} {W : World} {base : Nat} {sp : Nat → Bool} {held : Bool} {n : Nat} {cs : List Value} {y : DataW H × List MemPlace} (h : DataW.trod enc Try.prog W base sp held n 23 cs = some y) :
    ∃ (kb : Option Addr) (kc : Nat) (ks : List Int), cs = [.slice kb ks.length kc] ∧ ks.length ≤ maxLen ∧ Nums W kb ks ∧ ∀ x ∈ ks, (Lit.int .i64 x).wf = true := by
  rcases open_ints Try.underlying23 Try.underlying2 (by kernel_rfl) h with ⟨hcs, _⟩ | ⟨x, l, c, zs, hcs, _, hl, hm, hz, _, hcell, hwf⟩
  · exact ⟨none, 0, [], hcs, Nat.zero_le _, fun i hi => absurd hi (by simp), fun x hx => by cases hx⟩
  · have hzl : l ≤ zs.length := by rw [hz]; split <;> omega
    have htl : (zs.take l).length = l := by simp; omega
    refine ⟨some x, c, zs.take l, by rw [htl]; exact hcs, by rw [htl]; omega, fun i hi => ?_, fun y hy => hwf y (List.mem_of_mem_take hy)⟩
    rw [htl] at hi
    have hc := hcell i (by omega)
    have h0 := hcell 0 (by omega)
    obtain ⟨b, off, spot⟩ := x
    have hspot : spot = none := by
      have := World.cell?_spot h0
      simpa [Addr.add] using this
    subst hspot
    have hadd : ∀ j : Nat, (⟨b, off, none⟩ : Addr).add j = ⟨b, off + j, none⟩ := fun j => by unfold Addr.add; split <;> simp_all
    rw [hadd] at hc
    refine ⟨b, off, rfl, ?_⟩
    rw [hc]
    simp [List.getElem?_eq_getElem (show i < zs.length by omega)]
set_option maxRecDepth 100000 in
theorem numsw_of {H : Type} {enc : TypeId × Value → H} {W : World} {r : Reach} {b0 : Nat} {base : Nat} {sp : Nat → Bool} {held : Bool} {v : Value} {d : DataW H} {p : List MemPlace}
    (hv : Value.okWide Try.prog W r b0 23 v) (h : DataW.Trod enc Try.prog W base sp held 23 v d p) :
    ∃ (kb : Option Addr) (kc : Nat) (ks : List Int), v = .slice kb ks.length kc ∧ ks.length ≤ maxLen ∧ Nums W kb ks ∧ ∀ x ∈ ks, (Lit.int .i64 x).wf = true := by
  obtain ⟨a0, len0, cap0, rfl⟩ := okWide_slice Try.underlying23 hv
  obtain ⟨fuel, hf⟩ := h
  obtain ⟨kb, kc, ks, hcs, hm, hl, hw⟩ := nums_cells hf
  simp [Value.cells] at hcs
  obtain ⟨rfl, rfl, rfl⟩ := hcs
  exact ⟨_, _, _, rfl, hm, hl, hw⟩
set_option maxRecDepth 100000 in
theorem obj_of {H : Type} {enc : TypeId × Value → H} {W : World} {r : Reach} {b0 : Nat} {base : Nat} {sp : Nat → Bool} {held : Bool} {v : Value} {d : DataW H} {p : List MemPlace}
    (hv : Value.okWide Try.prog W r b0 87 v) (h : DataW.Trod enc Try.prog W base sp held 87 v d p) :
    ∃ (t : Int) (b : Option Addr) (vc : Nat) (vs : List Int), v = .agg #[.int .i64 t, .slice b vs.length vc] ∧ (Lit.int .i64 t).wf = true ∧ Nums W b vs ∧ vs.length ≤ maxLen ∧ ∀ x ∈ vs, (Lit.int .i64 x).wf = true := by
  obtain ⟨c0, c1, y0, y1, n, rfl, rfl, rfl, h0, h1⟩ := open_agg2 Try.underlying87 (by kernel_rfl) (by kernel_rfl) hv h
  obtain ⟨t, e0, _, w1⟩ := DataW.trod_int Try.underlying2 (show DataW.trod enc Try.prog W base sp held n 2 [c0] = some y0 from h0)
  obtain ⟨b, vc, vs, e1, hm, hl, hw⟩ := nums_cells (show DataW.trod enc Try.prog W base sp held n 23 [c1] = some y1 from h1)
  simp at e0 e1
  subst e0 e1
  exact ⟨t, b, vc, vs, rfl, w1, hl, hm, hw⟩
set_option maxRecDepth 20000 in
theorem i64_top {n : Int} (h : (Lit.int .i64 n).wf = true) : n < 9223372036854775808 := by
  simp [Lit.wf] at h
  omega
set_option maxRecDepth 20000 in
theorem szObj_any (w : World) (t : Int) (b : Option Addr) (vc : Nat) (vs : List Int) (left : Int) (h0 : 0 ≤ left) (h1 : left ≤ 1048576) (hm : vs.length ≤ maxLen) :
    Calls Try.prog 71 #[.agg #[.int .i64 t, .slice b vs.length vc], .int .i64 left] w fun e w' => ∃ r : Int, e = .returned (.int .i64 r) ∧ -1 ≤ r ∧ r ≤ 1048576 ∧ (0 ≤ r → vs.length ≤ 1048576) ∧ Below w.heap.size w w' := by
  unfold maxLen at hm
  have HS : Hid (∀ w, Calls Try.prog 37 #[.slice b vs.length vc, .int .i64 left] w fun e w' => ∃ r : Int, e = .returned (.int .i64 r) ∧ -1 ≤ r ∧ r ≤ 1048576 ∧ (0 ≤ r → vs.length ≤ 1048576) ∧ w' = w) := fun w => by
    by_cases hn : left - (vs.length : Int) < 0
    · go_enter Try.func37, Try.ntmps37
      go_wp2
      go_ret
      exact ⟨-1, rfl, by omega, by omega, by omega, rfl⟩
    · go_enter Try.func37, Try.ntmps37
      go_wp2
      go_ret
      exact ⟨left - (vs.length : Int), rfl, by omega, by omega, by omega, rfl⟩
  clear hm
  obtain ⟨W, hW⟩ : ∃ W, W = w.alloc (.cells #[.int .i64 t, .slice b vs.length vc] 87) := ⟨_, rfl⟩
  have HW : Hid (W = w.alloc (.cells #[.int .i64 t, .slice b vs.length vc] 87)) := hW
  have HB0 : Hid (Below w.heap.size w W) := by
    show Below _ _ _
    rw [hW]; exact (Below.refl _ _).alloc (Nat.le_refl _) _
  clear hW
  go_enter Try.func71, Try.ntmps71
  go_wp2_with fail
  rw [← HW.out]
  refine (HS.out _).mono ?_
  rintro e w1 ⟨r, rfl, hr0, hr1, hr2, rfl⟩
  have HR : Hid (0 ≤ r → vs.length ≤ 1048576) := hr2
  clear hr2
  by_cases hneg : r < 0
  · go_wp2
    go_ret
    exact ⟨-1, rfl, by omega, by omega, by omega, HB0.out⟩
  · go_wp2
    go_ret
    exact ⟨r, rfl, hr0, hr1, HR.out, HB0.out⟩
set_option maxRecDepth 20000 in
theorem two_set {w : World} {b c : Nat} (hbc : b ≠ c) {v0 v1 : Value} (h0 : w.cell? ⟨b, 0, none⟩ = some v0) (h1 : w.cell? ⟨b, 1, none⟩ = some v1) (S x0 x1 : Value) :
    (((w.setCell ⟨c, 1, none⟩ S).setCell ⟨b, 0, none⟩ x0).setCell ⟨b, 1, none⟩ x1).cell? ⟨b, 0, none⟩ = some x0 ∧ (((w.setCell ⟨c, 1, none⟩ S).setCell ⟨b, 0, none⟩ x0).setCell ⟨b, 1, none⟩ x1).cell? ⟨b, 1, none⟩ = some x1 := by
  have ne : ∀ i j : Nat, i ≠ j → (⟨b, i, none⟩ : Addr) ≠ ⟨b, j, none⟩ := fun i j h q => h (by simpa using congrArg Addr.off q)
  have nc : ∀ j : Nat, (⟨c, 1, none⟩ : Addr) ≠ ⟨b, j, none⟩ := fun j q => hbc (by simpa using (congrArg Addr.block q).symm)
  refine ⟨?_, ?_⟩
  · rw [World.cell?_setCell_other _ _ _ _ (ne 1 0 (by omega))]
    exact World.cell?_setCell_same _ _ _ (by rw [World.cell?_setCell_other _ _ _ _ (nc 0)]; exact h0)
  · exact World.cell?_setCell_same _ _ _ (by rw [World.cell?_setCell_other _ _ _ _ (ne 0 1 (by omega)), World.cell?_setCell_other _ _ _ _ (nc 1)]; exact h1)
set_option maxHeartbeats 1000000 in
set_option maxRecDepth 20000 in
theorem toObj_any (w : World) (t : Int) (b : Option Addr) (vc : Nat) (vs : List Int) (hn : vs.length ≤ 1048576) (hl : Nums w b vs) :
    Calls Try.prog 72 #[.agg #[.int .i64 t, .slice b vs.length vc]] w fun e w' => ∃ g : Nat, e = .returned (.agg #[.int .i64 t, .slice (some ⟨g, 0, none⟩) vs.length vs.length]) ∧ w.heap.size ≤ g ∧ g < w'.heap.size ∧ Ints w' (some ⟨g, 0, none⟩) g vs ∧ Below w.heap.size w w' := by
  have HL : Hid (Nums w b vs) := hl
  clear hl
  obtain ⟨W, hW⟩ : ∃ W, W = ((w.alloc (.cells #[.int .i64 t, .slice b vs.length vc] 87)).alloc (.cells #[.int .i64 0, .slice none 0 0] 53)).alloc (.cells #[.int .i64 t, .slice none 0 0] 53) := ⟨_, rfl⟩
  have HB0 : Hid (Below w.heap.size w W) := by
    have h1 : Below w.heap.size w W := by rw [hW]; go_grown
    exact h1
  have hsz : W.heap.size = w.heap.size + 3 := by rw [hW]; simp
  have f1 : ∀ o, W.cell? ⟨w.heap.size + 1, o, none⟩ = (#[Value.int .i64 0, .slice none 0 0] : Array Value)[o]? := fun o => by
    rw [hW, World.cell?_alloc_past _ _ _ (by simp), World.cell?_alloc_at _ _ _ _ (by simp)]
  have f2 : ∀ o, W.cell? ⟨w.heap.size + 1 + 1, o, none⟩ = (#[Value.int .i64 t, .slice none 0 0] : Array Value)[o]? := fun o => by
    rw [hW, World.cell?_alloc_at _ _ _ _ (by simp)]
  have z1 : ∀ o, W.frozen? ⟨w.heap.size + 1, o, none⟩ = false := fun o => by rw [hW, World.frozen?_alloc_past _ _ _ (by simp), World.frozen?_alloc_at _ _ _ _ (by simp)]
  have z2 : ∀ o, W.frozen? ⟨w.heap.size + 1 + 1, o, none⟩ = false := fun o => by rw [hW, World.frozen?_alloc_at _ _ _ _ (by simp)]
  have HW : Hid (W = ((w.alloc (.cells #[.int .i64 t, .slice b vs.length vc] 87)).alloc (.cells #[.int .i64 0, .slice none 0 0] 53)).alloc (.cells #[.int .i64 t, .slice none 0 0] 53)) := hW
  clear hW
  have F1 : Hid (∀ o, W.cell? ⟨w.heap.size + 1, o, none⟩ = (#[Value.int .i64 0, .slice none 0 0] : Array Value)[o]?) := f1
  have F2 : Hid (∀ o, W.cell? ⟨w.heap.size + 1 + 1, o, none⟩ = (#[Value.int .i64 t, .slice none 0 0] : Array Value)[o]?) := f2
  have Z1 : Hid (∀ o, W.frozen? ⟨w.heap.size + 1, o, none⟩ = false) := z1
  have Z2 : Hid (∀ o, W.frozen? ⟨w.heap.size + 1 + 1, o, none⟩ = false) := z2
  have HSZ : Hid (W.heap.size = w.heap.size + 3) := hsz
  clear f1 f2 z1 z2 hsz
  go_enter Try.func72, Try.ntmps72
  go_wp2_with fail
  rw [← HW.out]
  refine (toInt64S_any W b vc vs hn (HL.out.below HB0.out)).mono ?_
  rintro e w2 ⟨g, rfl, hg, hg2, hl2, hb2⟩
  have hsz := HSZ.out
  have c1 : ∀ o, w2.cell? ⟨w.heap.size + 1, o, none⟩ = W.cell? ⟨w.heap.size + 1, o, none⟩ := fun o => hb2.cell (p := ⟨w.heap.size + 1, o, none⟩) (by show w.heap.size + 1 < _; omega)
  have c2 : ∀ o, w2.cell? ⟨w.heap.size + 1 + 1, o, none⟩ = W.cell? ⟨w.heap.size + 1 + 1, o, none⟩ := fun o => hb2.cell (p := ⟨w.heap.size + 1 + 1, o, none⟩) (by show w.heap.size + 1 + 1 < _; omega)
  have d1 : ∀ o, w2.frozen? ⟨w.heap.size + 1, o, none⟩ = W.frozen? ⟨w.heap.size + 1, o, none⟩ := fun o => hb2.frozen (p := ⟨w.heap.size + 1, o, none⟩) (by show w.heap.size + 1 < _; omega)
  have d2 : ∀ o, w2.frozen? ⟨w.heap.size + 1 + 1, o, none⟩ = W.frozen? ⟨w.heap.size + 1 + 1, o, none⟩ := fun o => hb2.frozen (p := ⟨w.heap.size + 1 + 1, o, none⟩) (by show w.heap.size + 1 + 1 < _; omega)
  have r0 : w2.cell? ⟨w.heap.size + 1, 0, none⟩ = some (.int .i64 0) := by rw [c1, F1.out]; rfl
  have r1 : w2.cell? ⟨w.heap.size + 1, 1, none⟩ = some (.slice none 0 0) := by rw [c1, F1.out]; rfl
  have o0 : w2.cell? ⟨w.heap.size + 1 + 1, 0, none⟩ = some (.int .i64 t) := by rw [c2, F2.out]; rfl
  have o1 : w2.cell? ⟨w.heap.size + 1 + 1, 1, none⟩ = some (.slice none 0 0) := by rw [c2, F2.out]; rfl
  have y0 : w2.frozen? ⟨w.heap.size + 1, 0, none⟩ = false := by rw [d1, Z1.out]
  have y1 : w2.frozen? ⟨w.heap.size + 1, 1, none⟩ = false := by rw [d1, Z1.out]
  have x1 : w2.frozen? ⟨w.heap.size + 1 + 1, 1, none⟩ = false := by rw [d2, Z2.out]
  have HL2 : Hid (Ints w2 (some ⟨g, 0, none⟩) g vs) := hl2
  have HB2 : Hid (Below w.heap.size w w2) := HB0.out.trans (hb2.mono HB0.out.size)
  have hg3 : w.heap.size + 3 ≤ g := by omega
  have hch := fun S => two_set (w := w2) (b := w.heap.size + 1) (c := w.heap.size + 1 + 1) (by omega) r0 r1 S (.int .i64 t) S
  have q0 := fun S => (hch S).1
  have q1 := fun S => (hch S).2
  clear c1 c2 d1 d2 hl2 hb2 hg hch hsz
  go_wp2
  refine bodyPost_ret (v := .agg #[.int .i64 t, .slice (some ⟨g, 0, none⟩) vs.length vs.length]) (by simp [results, Try.results72, go_sem, q0, q1]) rfl ?_
  refine ⟨g, rfl, by omega, by simpa using hg2, ?_, ?_⟩
  · exact ((HL2.out.grown (grown_set _ _ _ _) (by omega)).grown (grown_set _ _ _ _) (by omega)).grown (grown_set _ _ _ _) (by omega)
  · exact ((HB2.out.setCell (p := ⟨w.heap.size + 1 + 1, 1, none⟩) (by show w.heap.size ≤ w.heap.size + 1 + 1; omega) _).setCell (p := ⟨w.heap.size + 1, 0, none⟩) (by show w.heap.size ≤ w.heap.size + 1; omega) _).setCell (p := ⟨w.heap.size + 1, 1, none⟩) (by show w.heap.size ≤ w.heap.size + 1; omega) _
set_option maxHeartbeats 1000000 in
set_option maxRecDepth 20000 in
theorem eqObj_same (w : World) (t : Int) (a b : Option Addr) (g h n ca cb : Nat) (vs : List Int) (hx : vs.length = n) (hn : vs.length ≤ 1048576) (ha : Ints w a g vs) (hb : Ints w b h vs) :
    Calls Try.prog 76 #[.agg #[.int .i64 t, .slice a n ca], .agg #[.int .i64 t, .slice b n cb]] w fun e w' => e = .returned (.bool true) ∧ Below w.heap.size w w' := by
  subst hx
  have HA : Hid (∀ w', Below w.heap.size w w' → Ints w' a g vs) := fun w' q => ha.below q
  have HBb : Hid (∀ w', Below w.heap.size w w' → Ints w' b h vs) := fun w' q => hb.below q
  obtain ⟨W, hW⟩ : ∃ W, W = (w.alloc (.cells #[.int .i64 t, .slice a vs.length ca] 53)).alloc (.cells #[.int .i64 t, .slice b vs.length cb] 53) := ⟨_, rfl⟩
  have HW : Hid (W = (w.alloc (.cells #[.int .i64 t, .slice a vs.length ca] 53)).alloc (.cells #[.int .i64 t, .slice b vs.length cb] 53)) := hW
  have hb0 : Below w.heap.size w W := by rw [hW]; exact ((Below.refl _ _).alloc (Nat.le_refl _) _).alloc (by simp) _
  have HB0 : Hid (Below w.heap.size w W) := hb0
  have x1 : (t != t) = false := by simp
  clear ha hb hW hb0
  go_enter Try.func76, Try.ntmps76
  go_wp2_with fail
  rw [← HW.out]
  refine (eqInt64S_same W a b g h ca cb vs hn (HA.out W HB0.out) (HBb.out W HB0.out)).mono ?_
  rintro e w' ⟨rfl, hb⟩
  have HB1 : Hid (Below w.heap.size w w') := HB0.out.trans (hb.mono HB0.out.size)
  clear hb
  go_wp2
  go_ret
  exact ⟨rfl, HB1.out⟩
end Go.Proofs.Ythjfgibflbbgmaa.obj
