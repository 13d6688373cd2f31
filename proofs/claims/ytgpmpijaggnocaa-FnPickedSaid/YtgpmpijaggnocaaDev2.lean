/-
  A device that is handed to a law, copied line by line into new memory; two devices that read alike are found alike.
-/
import Derived.Test.YtgpmpijaggnocaaDev1
import Derived.Laws.MakeOwn
import Derived.Deep.RegionWith
namespace Go.Proofs.Ytgpmpijaggnocaa.dev
open Go.RowKit

/-- The first m cells of a block are there and may be written. -/
def Row (w : World) (g m : Nat) : Prop := ∀ j, j < m → (∃ v, w.cell? ⟨g, j, none⟩ = some v) ∧ w.frozen? ⟨g, j, none⟩ = false
theorem Row.below {w w' : World} {g m B : Nat} (h : Row w g m) (hb : Below B w w') (hg : g < B) : Row w' g m := fun j hj => by
  rw [hb.cell (p := ⟨g, j, none⟩) hg, hb.frozen (p := ⟨g, j, none⟩) hg]; exact h j hj
theorem Row.set {w : World} {g m : Nat} (h : Row w g m) (a : Addr) (x : Value) : Row (w.setCell a x) g m := fun j hj => by
  obtain ⟨⟨v, hv⟩, hf⟩ := h j hj
  exact ⟨cell?_setCell_some hv, by rw [World.frozen?_setCell]; exact hf⟩
def put3 (w : World) (g k : Nat) (l : Ln) : World :=
  ((w.setCell ⟨g, k * 3, none⟩ (.int .i64 l.place)).setCell ⟨g, k * 3 + 1, none⟩ (.string l.data)).setCell ⟨g, k * 3 + 2, none⟩ (.string l.sent)
theorem put3_at {w : World} {g m k : Nat} (h : Row w g m) (hk : k * 3 + 2 < m) (l : Ln) : LnAt (put3 w g k l) (some ⟨g, 0, none⟩) k l := by
  obtain ⟨⟨v0, h0⟩, _⟩ := h (k * 3) (by omega)
  obtain ⟨⟨v1, h1⟩, _⟩ := h (k * 3 + 1) (by omega)
  obtain ⟨⟨v2, h2⟩, _⟩ := h (k * 3 + 2) (by omega)
  have ne : ∀ i j : Nat, i ≠ j → (⟨g, i, none⟩ : Addr) ≠ ⟨g, j, none⟩ := fun i j hij q => hij (congrArg Addr.off q)
  refine ⟨g, 0, rfl, ?_, ?_, ?_⟩ <;> rw [Nat.zero_add] <;> unfold put3
  · rw [World.cell?_setCell_other _ _ _ _ (ne _ _ (by omega)), World.cell?_setCell_other _ _ _ _ (ne _ _ (by omega)), World.cell?_setCell_same _ _ _ h0]
  · rw [World.cell?_setCell_other _ _ _ _ (ne _ _ (by omega))]
    exact World.cell?_setCell_same _ _ _ (by rw [World.cell?_setCell_other _ _ _ _ (ne _ _ (by omega))]; exact h1)
  · exact World.cell?_setCell_same _ _ _ (by rw [World.cell?_setCell_other _ _ _ _ (ne _ _ (by omega)), World.cell?_setCell_other _ _ _ _ (ne _ _ (by omega))]; exact h2)
theorem put3_other {w : World} {g k i : Nat} {l x : Ln} (hik : i ≠ k) (h : LnAt w (some ⟨g, 0, none⟩) i x) : LnAt (put3 w g k l) (some ⟨g, 0, none⟩) i x := by
  obtain ⟨b, off, e, h0, h1, h2⟩ := h
  have e1 : g = b := by simpa using congrArg (fun a : Option Addr => (a.map Addr.block)) e
  have e2 : 0 = off := by simpa using congrArg (fun a : Option Addr => (a.map Addr.off)) e
  subst e1; subst e2
  have ne : ∀ i j : Nat, i ≠ j → (⟨g, i, none⟩ : Addr) ≠ ⟨g, j, none⟩ := fun i j hij q => hij (congrArg Addr.off q)
  refine ⟨g, 0, rfl, ?_, ?_, ?_⟩ <;> unfold put3 <;> rw [World.cell?_setCell_other _ _ _ _ (ne _ _ (by omega)), World.cell?_setCell_other _ _ _ _ (ne _ _ (by omega)), World.cell?_setCell_other _ _ _ _ (ne _ _ (by omega))] <;> assumption
theorem put3_below {a w : World} {B g k : Nat} (h : Below B a w) (hg : B ≤ g) (l : Ln) : Below B a (put3 w g k l) :=
  ((h.setCell (p := ⟨g, k * 3, none⟩) hg _).setCell (p := ⟨g, k * 3 + 1, none⟩) hg _).setCell (p := ⟨g, k * 3 + 2, none⟩) hg _
theorem put3_row {w : World} {g m : Nat} (h : Row w g m) (k : Nat) (l : Ln) : Row (put3 w g k l) g m := ((h.set _ _).set _ _).set _ _

theorem infoLine : (Try.prog.info? 46).map (fun i => (i.zero, i.size, i.bytes)) = some (some (.agg #[.int .i64 0, .string ⟨#[]⟩, .string ⟨#[]⟩]), 3, 40) := by kernel_rfl

/-- The world behind a new row of n lines. -/
def madeLines (w : World) (n : Nat) : World := w.alloc (.cells (madeCells #[.int .i64 0, .string ⟨#[]⟩, .string ⟨#[]⟩] (n * 3)) 46)
theorem run_lines (n : Nat) (h : n ≤ 1048576) (w : World) : (Instr.makeSlice 24 (.int .i64 (n : Int)) (.int .i64 (n : Int))).run Try.prog w = .ok (.slice (some ⟨w.heap.size, 0, none⟩) n n) (madeLines w n) := by
  obtain ⟨i, hi, hzz⟩ := Option.map_eq_some_iff.1 infoLine
  simp only [Prod.mk.injEq] at hzz
  obtain ⟨hz, hs, hb⟩ := hzz
  have hr := run_make (P := Try.prog) w 24 46 i _ Try.underlying24 hi hz .i64 .i64 n n (by omega) (Int.le_refl _) (by rw [hb]; omega) (by omega)
  simp only [Int.toNat_natCast, hs] at hr
  exact hr
theorem made_below (w : World) (n : Nat) : Below w.heap.size w (madeLines w n) := (Below.refl _ _).alloc (Nat.le_refl _) _
theorem made_size (w : World) (n : Nat) : (madeLines w n).heap.size = w.heap.size + 1 := by unfold madeLines; simp
theorem made_row (w : World) (n : Nat) : Row (madeLines w n) w.heap.size (n * 3) := fun j hj => by
  unfold madeLines
  refine ⟨?_, World.frozen?_alloc_new _ _ _ _⟩
  rw [World.cell?_alloc_new]
  exact ⟨_, Array.getElem?_eq_getElem (by rw [size_madeCells]; exact hj)⟩

theorem bcell {W w1 : World} (hb : Below W.heap.size W w1) : (∀ b o, b < W.heap.size → w1.cell? ⟨b, o, none⟩ = W.cell? ⟨b, o, none⟩) ∧ (∀ b o, b < W.heap.size → w1.frozen? ⟨b, o, none⟩ = W.frozen? ⟨b, o, none⟩) :=
  ⟨fun b o h => hb.cell (p := ⟨b, o, none⟩) h, fun b o h => hb.frozen (p := ⟨b, o, none⟩) h⟩
theorem LnAt.set {w : World} {g i : Nat} {l : Ln} (h : LnAt w (some ⟨g, 0, none⟩) i l) (a : Addr) (x : Value) (ha : a.block ≠ g) : LnAt (w.setCell a x) (some ⟨g, 0, none⟩) i l := by
  obtain ⟨b, off, e, h0, h1, h2⟩ := h
  have e1 : g = b := by simpa using congrArg (fun a : Option Addr => (a.map Addr.block)) e
  subst e1
  refine ⟨g, off, e, ?_, ?_, ?_⟩ <;> rw [World.cell?_setCell_other _ _ _ _ (fun q => ha (congrArg Addr.block q))] <;> assumption
theorem Lines.set {w : World} {g : Nat} {ls : List Ln} (h : Lines w (some ⟨g, 0, none⟩) ls) (a : Addr) (x : Value) (ha : a.block ≠ g) : Lines (w.setCell a x) (some ⟨g, 0, none⟩) ls := fun i hi => (h i hi).set a x ha
end Go.Proofs.Ytgpmpijaggnocaa.dev
