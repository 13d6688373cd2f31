/-
  Graphs: copied, measured, held against their like.
-/
import Derived.Test.YthjfgibflbbgmaaGr1
namespace Go.Proofs.Ythjfgibflbbgmaa.gr
open Go.RowKit
open kinds ints obj

/-- Two cells of a copy's own: the values lie in a block that is newer than B; the first cell may be written. -/
def CopyAt (w : World) (B g o : Nat) (x : Nd) : Prop := w.cell? ⟨g, o, none⟩ = some (.int .i64 x.1) ∧ ∃ gi : Nat, w.cell? ⟨g, o + 1, none⟩ = some (.slice (some ⟨gi, 0, none⟩) x.2.length x.2.length) ∧ Ints w (some ⟨gi, 0, none⟩) gi x.2 ∧ B < gi ∧ w.frozen? ⟨g, o, none⟩ = false
def Copies (w : World) (g : Nat) (ns : List Nd) : Prop := ∀ i (hi : i < ns.length), CopyAt w g g (i * 2) ns[i]
set_option maxRecDepth 20000 in
theorem CopyAt.below {w w' : World} {B g o : Nat} {x : Nd} (h : CopyAt w B g o x) (hb : Below w.heap.size w w') : CopyAt w' B g o x := by
  obtain ⟨h0, gi, h1, h2, h3, h4⟩ := h
  exact ⟨by rw [hb.cell (p := ⟨g, o, none⟩) (World.block_lt_of_cell? w _ h0)]; exact h0, gi, by rw [hb.cell (p := ⟨g, o + 1, none⟩) (World.block_lt_of_cell? w _ h1)]; exact h1, h2.below hb, h3, by rw [hb.frozen (p := ⟨g, o, none⟩) (World.block_lt_of_cell? w _ h0)]; exact h4⟩
set_option maxRecDepth 20000 in
theorem Copies.below {w w' : World} {g : Nat} {ns : List Nd} (h : Copies w g ns) (hb : Below w.heap.size w w') : Copies w' g ns := fun i hi => (h i hi).below hb
set_option maxRecDepth 20000 in
theorem CopyAt.node {w : World} {B g o : Nat} {x : Nd} (h : CopyAt w B g o x) : NodeAt w g o x := by
  obtain ⟨h0, gi, h1, h2, _⟩ := h
  exact ⟨h0, _, _, h1, h2.nums⟩
set_option maxRecDepth 20000 in
theorem Copies.nodes {w : World} {g : Nat} {ns : List Nd} (h : Copies w g ns) : Nodes w (some ⟨g, 0, none⟩) ns := fun i hi => ⟨g, 0, rfl, by rw [Nat.zero_add]; exact (h i hi).node⟩
set_option maxRecDepth 20000 in
theorem CopyAt.set {w : World} {g o : Nat} {x : Nd} (h : CopyAt w g g o x) (j : Nat) (v : Value) (h0 : j ≠ o) (h1 : j ≠ o + 1) : CopyAt (w.setCell ⟨g, j, none⟩ v) g g o x := by
  obtain ⟨q0, gi, q1, q2, q3, q4⟩ := h
  have ne : ∀ i k : Nat, i ≠ k → (⟨g, i, none⟩ : Addr) ≠ ⟨g, k, none⟩ := fun i k h q => h (by simpa using congrArg Addr.off q)
  exact ⟨by rw [World.cell?_setCell_other _ _ _ _ (ne _ _ h0)]; exact q0, gi, by rw [World.cell?_setCell_other _ _ _ _ (ne _ _ h1)]; exact q1, q2.grown (grown_set _ _ _ _) (by omega), q3, by rw [World.frozen?_setCell]; exact q4⟩

set_option maxRecDepth 20000 in
theorem infoObj : (Try.prog.info? 53).map (fun i => (i.zero, i.size, i.bytes)) = some (some (.agg #[.int .i64 0, .slice none 0 0]), 2, 32) := by kernel_rfl
def madeObjs (w : World) (n : Nat) : World := w.alloc (.cells (madeCells #[.int .i64 0, .slice none 0 0] (n * 2)) 53)
set_option maxRecDepth 20000 in
theorem run_objs (n : Nat) (h : n ≤ 1048576) (w : World) : (Instr.makeSlice 31 (.int .i64 (n : Int)) (.int .i64 (n : Int))).run Try.prog w = .ok (.slice (some ⟨w.heap.size, 0, none⟩) n n) (madeObjs w n) := by
  obtain ⟨i, hi, hzz⟩ := Option.map_eq_some_iff.1 infoObj
  simp only [Prod.mk.injEq] at hzz
  obtain ⟨hz, hs, hb⟩ := hzz
  have hr := run_make (P := Try.prog) w 31 53 i _ Try.underlying31 hi hz .i64 .i64 n n (by omega) (Int.le_refl _) (by rw [hb]; omega) (by omega)
  simp only [Int.toNat_natCast, hs] at hr
  exact hr
set_option maxRecDepth 20000 in
theorem madeObjs_below (w : World) (n : Nat) : Below w.heap.size w (madeObjs w n) := (Below.refl _ _).alloc (Nat.le_refl _) _
set_option maxRecDepth 20000 in
theorem madeObjs_size (w : World) (n : Nat) : (madeObjs w n).heap.size = w.heap.size + 1 := by unfold madeObjs; simp
set_option maxRecDepth 20000 in
theorem madeObjs_row (w : World) (n : Nat) : Room (madeObjs w n) w.heap.size (n * 2) := fun j hj => by
  unfold madeObjs
  refine ⟨?_, World.frozen?_alloc_new _ _ _ _⟩
  rw [World.cell?_alloc_new]
  exact ⟨_, Array.getElem?_eq_getElem (by rw [size_madeCells]; exact hj)⟩
set_option maxHeartbeats 1000000 in
set_option maxRecDepth 20000 in
theorem toObjS_any (w : World) (a : Option Addr) (cap n : Nat) (ns : List Nd) (hx : ns.length = n) (hn : n ≤ 1048576) (hz : ∀ x ∈ ns, x.2.length ≤ 1048576) (hl : Nodes w a ns) :
    Calls Try.prog 42 #[.slice a n cap] w fun e w' => ∃ g : Nat, e = .returned (.slice (some ⟨g, 0, none⟩) n n) ∧ w.heap.size ≤ g ∧ g < w'.heap.size ∧ Copies w' g ns ∧ Below w.heap.size w w' := by
  have HX : Hid (ns.length = n) := hx
  have HL : Hid (Nodes w a ns) := hl
  have HZ : Hid (∀ x ∈ ns, x.2.length ≤ 1048576) := hz
  have hmk := run_objs n hn w
  have HB0 : Hid (Below w.heap.size w (madeObjs w n)) := madeObjs_below w n
  have HR0 : Hid (Room (madeObjs w n) w.heap.size (n * 2)) := madeObjs_row w n
  have HS0 : Hid ((madeObjs w n).heap.size = w.heap.size + 1) := madeObjs_size w n
  generalize madeObjs w n = w1 at hmk HB0 HR0 HS0
  clear hl hx hz
  go_enter Try.func42, Try.ntmps42
  go_wp2
  go_loopw [4] (fun i wr => ∃ k : Nat, k ≤ n ∧ i = .int .i64 k ∧ (∀ j (hj : j < ns.length), j < k → CopyAt wr w.heap.size w.heap.size (j * 2) ns[j]) ∧ Room wr w.heap.size (n * 2) ∧ Below w.heap.size w wr ∧ w.heap.size < wr.heap.size) (fun i _ => n - (intOf i).toNat)
  case atStart => exact ⟨0, Nat.zero_le _, rfl, fun j hj h => by omega, HR0.out, HB0.out, by have := HS0.out; omega⟩
  case round =>
    obtain ⟨k, hk, rfl, hat, hrow, hb, hsz⟩ := hrel
    have HA : Hid (∀ j (hj : j < ns.length), j < k → CopyAt wr w.heap.size w.heap.size (j * 2) ns[j]) := hat
    have HR : Hid (Room wr w.heap.size (n * 2)) := hrow
    have HB : Hid (Below w.heap.size w wr) := hb
    clear hat hrow hb
    by_cases hlt : k < n
    · have hi0 : k < ns.length := by have := HX.out; omega
      obtain ⟨b, off, rfl, c0, ai, ci, c1, hnu⟩ := HL.out.below HB.out k hi0
      obtain ⟨⟨t, vs⟩, hxk⟩ : ∃ x, x = ns[k] := ⟨_, rfl⟩
      have hvl : vs.length ≤ 1048576 := by have := HZ.out ns[k] (List.getElem_mem hi0); rw [← hxk] at this; exact this
      rw [← hxk] at c0 c1 hnu
      have HXK : Hid ((t, vs) = ns[k]) := hxk
      have HC : Hid (∀ W, Nums W ai vs → Calls _ _ _ W _) := fun W h => toObj_any W t ai ci vs hvl h
      have HNU : Hid (Nums wr ai vs) := hnu
      have d0 : wr.cell? ⟨b, off + k * 2, none⟩ = some (.int .i64 t) := c0
      have d1 : wr.cell? ⟨b, off + k * 2 + 1, none⟩ = some (.slice ai vs.length ci) := c1
      clear hxk hmk c0 c1 hnu hvl
      go_wp2_with fail
      refine (HC.out _ HNU.out).mono ?_
      rintro e w2 ⟨g, rfl, hg, hg2, hi2, hb2⟩
      have HR2 : Hid (Room w2 w.heap.size (n * 2)) := fun j hj => by
        obtain ⟨⟨v, h0⟩, h1⟩ := HR.out j hj
        exact ⟨⟨v, by rw [hb2.cell (p := ⟨w.heap.size, j, none⟩) hsz]; exact h0⟩, by rw [hb2.frozen (p := ⟨w.heap.size, j, none⟩) hsz]; exact h1⟩
      have HB2 : Hid (Below w.heap.size w w2) := HB.out.trans (hb2.mono HB.out.size)
      have HA2 : Hid (∀ j (hj : j < ns.length), j < k → CopyAt w2 w.heap.size w.heap.size (j * 2) ns[j]) := fun j hj h => (HA.out j hj h).below hb2
      have HI2 : Hid (Ints w2 (some ⟨g, 0, none⟩) g vs) := hi2
      have HG2 : Hid (w.heap.size < g) := by show w.heap.size < g; omega
      have hsz2 : w.heap.size < w2.heap.size := Nat.lt_of_lt_of_le hsz hb2.size
      obtain ⟨⟨v0, d0⟩, f0⟩ := HR2.out (k * 2) (by omega)
      obtain ⟨⟨v1, d1⟩, f1⟩ := HR2.out (k * 2 + 1) (by omega)
      have HD : Hid (w2.cell? ⟨w.heap.size, k * 2, none⟩ = some v0 ∧ w2.cell? ⟨w.heap.size, k * 2 + 1, none⟩ = some v1) := ⟨d0, d1⟩
      have HFZ : Hid (w2.frozen? ⟨w.heap.size, k * 2, none⟩ = false) := f0
      clear hb2 hg hg2 hi2 HC HNU
      go_wp2
      refine ⟨⟨k + 1, by omega, by go_num, ?_, (HR2.out.set _ _).set _ _, (HB2.out.setCell (p := ⟨w.heap.size, k * 2, none⟩) (Nat.le_refl _) _).setCell (p := ⟨w.heap.size, k * 2 + 1, none⟩) (Nat.le_refl _) _, by simpa using hsz2⟩, by simp [intOf]; omega⟩
      intro j hj hjk
      have ne : ∀ i j : Nat, i ≠ j → (⟨w.heap.size, i, none⟩ : Addr) ≠ ⟨w.heap.size, j, none⟩ := fun i j h q => h (by simpa using congrArg Addr.off q)
      by_cases hj1 : j = k
      · subst hj1
        rw [← HXK.out]
        refine ⟨?_, g, ?_, (HI2.out.grown (grown_set _ _ _ _) (by have := HG2.out; omega)).grown (grown_set _ _ _ _) (by have := HG2.out; omega), HG2.out, by rw [World.frozen?_setCell, World.frozen?_setCell]; exact HFZ.out⟩
        · rw [World.cell?_setCell_other _ _ _ _ (ne _ _ (by omega))]
          exact World.cell?_setCell_same _ _ _ HD.out.1
        · exact World.cell?_setCell_same _ _ _ (by rw [World.cell?_setCell_other _ _ _ _ (ne _ _ (by omega))]; exact HD.out.2)
      · exact ((HA2.out j hj (by omega)).set _ _ (by omega) (by omega)).set _ _ (by omega) (by omega)
    · go_wp2
      go_ret
      exact ⟨w.heap.size, rfl, Nat.le_refl _, hsz, fun i hi => HA.out i hi (by have := HX.out; omega), HB.out⟩
end Go.Proofs.Ythjfgibflbbgmaa.gr
