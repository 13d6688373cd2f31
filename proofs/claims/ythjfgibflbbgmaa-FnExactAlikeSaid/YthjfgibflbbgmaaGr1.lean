/-
  Graphs that are handed in: what they read as.
-/
import Derived.Test.YthjfgibflbbgmaaObj1
import Derived.Test.YthjfgibflbbgmaaObjOpen
import Derived.Deep.RegionWith
import Derived.Deep.RegionHeld3
import Derived.Laws.MakeOwn
namespace Go.Proofs.Ythjfgibflbbgmaa.gr
open Go.RowKit Go.ChangeShapes Go.WideShapes Go.ChangeAt Go.Joins Go.Deep
open kinds ints obj

/-- A node: its type and its values. -/
abbrev Nd := Int × List Int
/-- Two cells that read as a node. -/
def NodeAt (w : World) (b o : Nat) (x : Nd) : Prop := w.cell? ⟨b, o, none⟩ = some (.int .i64 x.1) ∧ ∃ (ai : Option Addr) (ci : Nat), w.cell? ⟨b, o + 1, none⟩ = some (.slice ai x.2.length ci) ∧ Nums w ai x.2
set_option maxRecDepth 20000 in
theorem NodeAt.below {w w' : World} {b o : Nat} {x : Nd} (h : NodeAt w b o x) (hb : Below w.heap.size w w') : NodeAt w' b o x := by
  obtain ⟨h0, ai, ci, h1, h2⟩ := h
  exact ⟨by rw [hb.cell (p := ⟨b, o, none⟩) (World.block_lt_of_cell? w _ h0)]; exact h0, ai, ci, by rw [hb.cell (p := ⟨b, o + 1, none⟩) (World.block_lt_of_cell? w _ h1)]; exact h1, h2.below hb⟩
/-- A slice that reads as nodes. -/
def Nodes (w : World) (a : Option Addr) (ns : List Nd) : Prop := ∀ i (hi : i < ns.length), ∃ b off, a = some ⟨b, off, none⟩ ∧ NodeAt w b (off + i * 2) ns[i]
set_option maxRecDepth 20000 in
theorem Nodes.below {w w' : World} {a : Option Addr} {ns : List Nd} (h : Nodes w a ns) (hb : Below w.heap.size w w') : Nodes w' a ns := fun i hi => by
  obtain ⟨b, off, e, hn⟩ := h i hi
  exact ⟨b, off, e, hn.below hb⟩
/-- What a node may be. -/
def NdOk (x : Nd) : Prop := (Lit.int .i64 x.1).wf = true ∧ x.2.length ≤ maxLen ∧ ∀ y ∈ x.2, (Lit.int .i64 y).wf = true

set_option maxRecDepth 20000 in
theorem node_of {H : Type} {enc : TypeId × Value → H} {W : World} {base : Nat} {sp : Nat → Bool} {held : Bool} {n : Nat} {cs : List Value} {y : DataW H × List MemPlace} (h : DataW.trod enc Try.prog W base sp held n 87 cs = some y) :
    ∃ l : Nd × Option Addr × Nat, cs = [.int .i64 l.1.1, .slice l.2.1 l.1.2.length l.2.2] ∧ Nums W l.2.1 l.1.2 ∧ NdOk l.1 := by
  obtain ⟨y0, y1, m, _, hlen, h0, h1⟩ := trod_struct2 Try.underlying87 h
  have hc : Try.prog.cellsOf 87 = 2 := by kernel_rfl
  rw [hc] at hlen
  obtain ⟨c0, c1, rfl⟩ : ∃ c0 c1, cs = [c0, c1] := by
    match cs, hlen with
    | [a, b], _ => exact ⟨a, b, rfl⟩
  have k2 : Try.prog.cellsOf 2 = 1 := by kernel_rfl
  obtain ⟨x0, e0, _, wf0⟩ := DataW.trod_int Try.underlying2 (show DataW.trod enc Try.prog W base sp held m 2 _ = some y0 from h0)
  obtain ⟨b, vc, vs, e1, hm, hl, hw⟩ := nums_cells (show DataW.trod enc Try.prog W base sp held m 23 _ = some y1 from h1)
  have k3 : Try.prog.cellsOf 23 = 1 := by kernel_rfl
  simp [k2, k3] at e0 e1
  subst e0 e1
  exact ⟨((x0, vs), b, vc), rfl, hl, wf0, hm, hw⟩
set_option maxRecDepth 20000 in
theorem nodes_of {H : Type} {enc : TypeId × Value → H} {W : World} {base : Nat} {sp : Nat → Bool} {held : Bool} {n : Nat} {cs : List Value} {y : DataW H × List MemPlace} (h : DataW.trod enc Try.prog W base sp held n 24 cs = some y) :
    ∃ (a : Option Addr) (cap : Nat) (ns : List Nd), cs = [.slice a ns.length cap] ∧ Nodes W a ns ∧ ns.length ≤ maxLen ∧ ∀ x ∈ ns, NdOk x := by
  rcases open_slice Try.underlying24 h with ⟨hcs, _⟩ | ⟨a, len, cap, m, k, D, Pl, hcs, _, hl, hm, hmm, _, hel⟩
  · exact ⟨none, 0, [], hcs, (fun i hi => by cases hi), Nat.zero_le _, (fun x hx => by cases hx)⟩
  · have hc : Try.prog.cellsOf 87 = 2 := by kernel_rfl
    rw [hc] at hel
    have hlm : len ≤ m := by rw [hmm]; split <;> omega
    obtain ⟨f, hf⟩ := @choose_lt (Nd × Option Addr × Nat) ⟨((0, []), none, 0)⟩ len (fun i l => W.cells? base (a.add (i * 2)) 2 = some [.int .i64 l.1.1, .slice l.2.1 l.1.2.length l.2.2] ∧ Nums W l.2.1 l.1.2 ∧ NdOk l.1) (fun i hi => by
      obtain ⟨cs', h1, h2⟩ := hel i (by omega)
      obtain ⟨l, rfl, q1, q2⟩ := node_of h2
      exact ⟨l, h1, q1, q2⟩)
    have hpl : ((List.range len).map fun i => (f i).1).length = len := by simp
    refine ⟨some a, cap, (List.range len).map fun i => (f i).1, by rw [hpl]; exact hcs, ?_, by omega, ?_⟩
    · intro i hi
      rw [hpl] at hi
      obtain ⟨h1, h2, _⟩ := hf i hi
      obtain ⟨_, _, hcell⟩ := World.cells?_some h1
      have h00 := (hf 0 (by omega)).1
      obtain ⟨_, _, hcell0⟩ := World.cells?_some h00
      have z0 := hcell0 0 (by omega)
      obtain ⟨b, off, spot⟩ := a
      have hspot : spot = none := by
        have := World.cell?_spot (show W.cell? (((⟨b, off, spot⟩ : Addr).add (0 * 2)).add 0) = some (.int .i64 (f 0).1.1) from z0)
        simpa [Addr.add] using this
      subst hspot
      have hadd : ∀ o j : Nat, (⟨b, o, none⟩ : Addr).add j = ⟨b, o + j, none⟩ := fun o j => by unfold Addr.add; split <;> simp_all
      have c0 := hcell 0 (by omega)
      have c1 := hcell 1 (by omega)
      rw [hadd, hadd] at c0 c1
      have e : ((List.range len).map fun i => (f i).1)[i]'(by rw [hpl]; exact hi) = (f i).1 := by simp
      rw [e]
      exact ⟨b, off, rfl, by simpa using c0, (f i).2.1, (f i).2.2, by simpa using c1, h2⟩
    · intro x hx
      obtain ⟨i, hi, rfl⟩ := List.mem_map.1 hx
      exact (hf i (by simpa using hi)).2.2
set_option maxRecDepth 100000 in
theorem graph_of {H : Type} {enc : TypeId × Value → H} {W : World} {r : Reach} {b0 : Nat} {base : Nat} {sp : Nat → Bool} {held : Bool} {v : Value} {d : DataW H} {p : List MemPlace}
    (hv : Value.okWide Try.prog W r b0 26 v) (h : DataW.Trod enc Try.prog W base sp held 26 v d p) :
    ∃ (b : Option Addr) (vc : Nat) (rs : List Int) (a : Option Addr) (c : Nat) (ns : List Nd), v = .agg #[.slice b rs.length vc, .slice a ns.length c] ∧ Nums W b rs ∧ rs.length ≤ maxLen ∧ (∀ x ∈ rs, (Lit.int .i64 x).wf = true) ∧ Nodes W a ns ∧ ns.length ≤ maxLen ∧ ∀ x ∈ ns, NdOk x := by
  obtain ⟨c0, c1, y0, y1, n, rfl, rfl, rfl, h0, h1⟩ := open_agg2 Try.underlying26 (by kernel_rfl) (by kernel_rfl) hv h
  obtain ⟨b, vc, rs, e0, hm, hl, hw⟩ := nums_cells (show DataW.trod enc Try.prog W base sp held n 23 [c0] = some y0 from h0)
  obtain ⟨a, c, ns, e1, hn, hnm, hok⟩ := nodes_of (show DataW.trod enc Try.prog W base sp held n 24 [c1] = some y1 from h1)
  simp at e0 e1
  subst e0 e1
  exact ⟨b, vc, rs, a, c, ns, rfl, hl, hm, hw, hn, hnm, hok⟩
end Go.Proofs.Ythjfgibflbbgmaa.gr
