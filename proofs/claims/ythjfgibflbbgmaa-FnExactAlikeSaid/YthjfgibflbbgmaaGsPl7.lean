/-
  A graph that a call has answered, in a variable.
-/
import Derived.Test.YthjfgibflbbgmaaGsPl5
import Derived.Test.YthjfgibflbbgmaaGsPl6
namespace Go.Proofs.Ythjfgibflbbgmaa.gs
open Go.RowKit
open kinds ints obj ref gr cl

/-- An answer's memory: the roots, and the nodes with their values. -/
structure PA (B : Nat) (a1 : Option Addr) (g1 : Nat) (a2 : Option Addr) (c2 : Nat) (pr : List Int) (pn : List Nd) (L : List En) (w : World) : Prop where
  ir : Ints w a1 g1 pr
  row : RowE w B (.slice a2 pn.length c2) L
  ne : (Value.slice a2 pn.length c2).ownBlock ≠ some g1
  nv : ∀ x ∈ L, x.1 ≠ g1
  b1 : B ≤ g1
  nd : pn = ndsE L
  ln : L.length = pn.length
def GOut (pr : List Int) (pn : List Nd) (w : World) (e : Ending) (w' : World) : Prop :=
  ∃ a1 g1 c1 a2 c2 L, e = .returned (.agg #[.slice a1 pr.length c1, .slice a2 pn.length c2]) ∧ PA w.heap.size a1 g1 a2 c2 pr pn L w' ∧ Below w.heap.size w w'
theorem gout_of {pr : List Int} {pn : List Nd} {w : World} {e : Ending} {w' : World} (h : PAns pr pn w e w') : GOut pr pn w e w' := by
  obtain ⟨a, g, c, v, L, rfl, hnd, hir, hg, hrow, hne, hnv, hb⟩ := h
  obtain ⟨av, gv, cv, rfl, _, _⟩ := hrow.shape
  have hl : L.length = pn.length := by rw [hnd, ndsE_len]
  rw [hl] at hrow hne ⊢
  exact ⟨a, g, c, av, cv, L, rfl, ⟨hir, hrow, hne, hnv, hg, hnd, hl⟩, hb⟩
theorem RowE.same {w w' : World} {B : Nat} {v : Value} {L : List En} (h : RowE w B v L) (ho : ∀ k, v.ownBlock = some k → w'.heap[k]? = w.heap[k]?) (hv : ∀ e ∈ L, w'.heap[e.1]? = w.heap[e.1]?) (hs : w.heap.size ≤ w'.heap.size) : RowE w' B v L := by
  refine ⟨⟨h.row.1, ?_⟩, fun e he => ?_, h.ne, h.up⟩
  · rcases h.row.2 with q | ⟨g, cap, cur, rfl, hg0, hg, r⟩
    · exact .inl q
    · exact .inr ⟨g, cap, cur, rfl, hg0, by rw [ho g rfl]; exact hg, r⟩
  · obtain ⟨h1, h2, h3⟩ := h.vals e he
    exact ⟨fun i hi => by
      obtain ⟨q0, q1, q2⟩ := h1 i hi
      exact ⟨q0, by rw [World.cell?_of_block (a := ⟨e.1, i, none⟩) (hv e he)]; exact q1, by rw [World.frozen?_of_block (a := ⟨e.1, i, none⟩) (hv e he)]; exact q2⟩, h2, Nat.lt_of_lt_of_le h3 hs⟩
/-- What lies below a bound there, and what a variable at b holds. -/
structure PV (B T b : Nat) (a1 : Option Addr) (g1 c1 : Nat) (a2 : Option Addr) (c2 : Nat) (pr : List Int) (pn : List Nd) (L : List En) (w : World) : Prop where
  c0 : w.cell? ⟨b, 0, none⟩ = some (.slice a1 pr.length c1)
  c1 : w.cell? ⟨b, 1, none⟩ = some (.slice a2 pn.length c2)
  pa : PA B a1 g1 a2 c2 pr pn L w
  bB : B ≤ b
  bT : b < T
  g1t : 0 < pr.length → g1 < T
  ow : ∀ k, (Value.slice a2 pn.length c2).ownBlock = some k → k < T
  vt : ∀ e ∈ L, e.1 < T
  tw : T ≤ w.heap.size
  bg : 0 < pr.length → b ≠ g1
  bo : (Value.slice a2 pn.length c2).ownBlock ≠ some b
  bv : ∀ e ∈ L, e.1 ≠ b
theorem PA.kept {B T g1 c2 : Nat} {a1 a2 : Option Addr} {pr : List Int} {pn : List Nd} {L : List En} {w w' : World} (h : PA B a1 g1 a2 c2 pr pn L w) (h1 : 0 < pr.length → g1 < T) (h2 : ∀ k, (Value.slice a2 pn.length c2).ownBlock = some k → k < T) (h3 : ∀ e ∈ L, e.1 < T) (hk : ∀ k, B ≤ k → k < T → w'.heap[k]? = w.heap[k]?) (hs : w.heap.size ≤ w'.heap.size) : PA B a1 g1 a2 c2 pr pn L w' :=
  ⟨fun i hi => by
    obtain ⟨q0, q1, q2⟩ := h.ir i hi
    have hb := hk g1 h.b1 (h1 (by omega))
    exact ⟨q0, by rw [World.cell?_of_block (a := ⟨g1, i, none⟩) hb]; exact q1, by rw [World.frozen?_of_block (a := ⟨g1, i, none⟩) hb]; exact q2⟩, h.row.same (fun k q => hk k (h.row.row.lt k q).1 (h2 k q)) (fun e he => hk e.1 (h.row.vals e he).2.1 (h3 e he)) hs, h.ne, h.nv, h.b1, h.nd, h.ln⟩
theorem PV.kept {B T b g1 c1 c2 : Nat} {a1 a2 : Option Addr} {pr : List Int} {pn : List Nd} {L : List En} {w w' : World} (h : PV B T b a1 g1 c1 a2 c2 pr pn L w) (hk : ∀ k, B ≤ k → k < T → w'.heap[k]? = w.heap[k]?) (hs : w.heap.size ≤ w'.heap.size) : PV B T b a1 g1 c1 a2 c2 pr pn L w' :=
  ⟨by rw [World.cell?_of_block (a := ⟨b, 0, none⟩) (hk b h.bB h.bT)]; exact h.c0, by rw [World.cell?_of_block (a := ⟨b, 1, none⟩) (hk b h.bB h.bT)]; exact h.c1, h.pa.kept h.g1t h.ow h.vt hk hs, h.bB, h.bT, h.g1t, h.ow, h.vt, Nat.le_trans h.tw hs, h.bg, h.bo, h.bv⟩
theorem PV.below {B T b g1 c1 c2 : Nat} {a1 a2 : Option Addr} {pr : List Int} {pn : List Nd} {L : List En} {w w' : World} (h : PV B T b a1 g1 c1 a2 c2 pr pn L w) (hb : Below w.heap.size w w') : PV B T b a1 g1 c1 a2 c2 pr pn L w' := h.kept (fun k _ hk => hb.block k (Nat.lt_of_lt_of_le hk h.tw)) hb.size
theorem PV.under {B T b g1 c1 c2 D : Nat} {a1 a2 : Option Addr} {pr : List Int} {pn : List Nd} {L : List En} {w w' : World} (h : PV B T b a1 g1 c1 a2 c2 pr pn L w) (hb : Below D w w') (hD : T ≤ D) : PV B T b a1 g1 c1 a2 c2 pr pn L w' := h.kept (fun k _ hk => hb.block k (Nat.lt_of_lt_of_le hk hD)) hb.size
theorem PV.grown {B T b g1 c1 c2 g : Nat} {a1 a2 : Option Addr} {pr : List Int} {pn : List Nd} {L : List En} {w w' : World} (h : PV B T b a1 g1 c1 a2 c2 pr pn L w) (hg : w.grownBy w' (some g)) (ho : g < B ∨ T ≤ g) : PV B T b a1 g1 c1 a2 c2 pr pn L w' :=
  h.kept (fun k h1 h2 => hg.block k (Nat.lt_of_lt_of_le h2 h.tw) (fun q => by have := Option.some.inj q; omega)) hg.size
theorem PV.span {B T b g1 c1 c2 lo hi : Nat} {a1 a2 : Option Addr} {pr : List Int} {pn : List Nd} {L : List En} {w w' : World} (h : PV B T b a1 g1 c1 a2 c2 pr pn L w) (hs : Sp lo hi w w') (ho : hi ≤ B ∨ T ≤ lo) : PV B T b a1 g1 c1 a2 c2 pr pn L w' :=
  h.kept (fun k h1 h2 => hs.2.2.2.2 k (Nat.lt_of_lt_of_le h2 h.tw) (by omega)) hs.2.2.2.1
/-- The zero block of a variable. -/
structure GP (w W : World) : Prop where
  below : Below w.heap.size w W
  lt : w.heap.size < W.heap.size
  cell : ∀ k, k < 2 → W.cell? ⟨w.heap.size, k, none⟩ = some (.slice none 0 0)
  free : ∀ k, W.frozen? ⟨w.heap.size, k, none⟩ = false
theorem GP.later {w W w' : World} (h : GP w W) (hb : Below W.heap.size W w') : GP w w' :=
  ⟨h.below.trans (hb.mono h.below.size), Nat.lt_of_lt_of_le h.lt hb.size, fun k q => by rw [hb.cell (p := ⟨w.heap.size, k, none⟩) h.lt]; exact h.cell k q, fun k => by rw [hb.frozen (p := ⟨w.heap.size, k, none⟩) h.lt]; exact h.free k⟩
theorem GP.start (w : World) (T : TypeId) : GP w (w.alloc (.cells #[.slice none 0 0, .slice none 0 0] T)) :=
  ⟨(Below.refl _ _).alloc (Nat.le_refl _) _, by simp, fun k h => by rw [World.cell?_alloc_new]; match k, h with | 0, _ => rfl | 1, _ => rfl, fun k => World.frozen?_alloc_new _ _ _ _⟩
theorem GP.undrawn {U w' : World} (h : GP U.drew w') : GP U w' := ⟨⟨h.below.os, h.below.tape, h.below.output, h.below.size, h.below.block⟩, h.lt, h.cell, h.free⟩
theorem pv_start {B U g1 c1 c2 : Nat} {a1 a2 : Option Addr} {pr : List Int} {pn : List Nd} {L : List En} (wr : World) (T : TypeId) (k : PA B a1 g1 a2 c2 pr pn L wr) (hU : U ≤ B) (hw : U ≤ wr.heap.size) : PV U (wr.alloc (.cells #[.slice a1 pr.length c1, .slice a2 pn.length c2] T)).heap.size wr.heap.size a1 g1 c1 a2 c2 pr pn L (wr.alloc (.cells #[.slice a1 pr.length c1, .slice a2 pn.length c2] T)) := by
  have hb : Below wr.heap.size wr (wr.alloc (.cells #[.slice a1 pr.length c1, .slice a2 pn.length c2] T)) := (Below.refl _ _).alloc (Nat.le_refl _) _
  refine ⟨by rw [World.cell?_alloc_new]; rfl, by rw [World.cell?_alloc_new]; rfl, ⟨k.ir.below hb, (k.row.quiet hb).mono hU, k.ne, k.nv, Nat.le_trans hU k.b1, k.nd, k.ln⟩, hw, by simp, fun h => ?_, fun i q => ?_, fun e he => ?_, Nat.le_refl _, fun h => ?_, fun q => ?_, fun e he => ?_⟩
  · have := k.ir.lt h; simp; omega
  · have := (k.row.row.lt i q).2; simp; omega
  · have := (k.row.vals e he).2.2; simp; omega
  · have := k.ir.lt h; omega
  · have := (k.row.row.lt _ q).2; omega
  · have := (k.row.vals e he).2.2; omega
theorem pv_put {B U g1 c1 c2 : Nat} {a1 a2 : Option Addr} {pr : List Int} {pn : List Nd} {L : List En} {P wr : World} (h : GP P wr) (k : PA B a1 g1 a2 c2 pr pn L wr) (hU : U ≤ P.heap.size) (hB : P.heap.size < B) :
    PV U ((wr.setCell ⟨P.heap.size, 0, none⟩ (.slice a1 pr.length c1)).setCell ⟨P.heap.size, 1, none⟩ (.slice a2 pn.length c2)).heap.size P.heap.size a1 g1 c1 a2 c2 pr pn L ((wr.setCell ⟨P.heap.size, 0, none⟩ (.slice a1 pr.length c1)).setCell ⟨P.heap.size, 1, none⟩ (.slice a2 pn.length c2)) := by
  obtain ⟨e0, e1⟩ := pair_set (h.cell 0 (by omega)) (h.cell 1 (by omega)) (.slice a1 pr.length c1) (.slice a2 pn.length c2)
  have hk : ∀ i, B ≤ i → i < wr.heap.size → ((wr.setCell ⟨P.heap.size, 0, none⟩ (.slice a1 pr.length c1)).setCell ⟨P.heap.size, 1, none⟩ (.slice a2 pn.length c2)).heap[i]? = wr.heap[i]? := fun i hi _ => by
    rw [Below.heap_setCell _ ⟨P.heap.size, 1, none⟩ _ i (fun e => by have e2 : i = P.heap.size := e; omega), Below.heap_setCell _ ⟨P.heap.size, 0, none⟩ _ i (fun e => by have e2 : i = P.heap.size := e; omega)]
  have hlt := h.lt
  have k2 := k.kept (T := wr.heap.size) (fun q => k.ir.lt q) (fun i q => (k.row.row.lt i q).2) (fun e he => (k.row.vals e he).2.2) hk (by simp)
  refine ⟨e0, e1, ⟨k2.ir, k2.row.mono (by omega), k2.ne, k2.nv, by have := k.b1; omega, k2.nd, k2.ln⟩, hU, by simp; omega, fun q => ?_, fun i q => ?_, fun e he => ?_, Nat.le_refl _, fun q => ?_, fun q => ?_, fun e he => ?_⟩
  · have := k.ir.lt q; simp; omega
  · have := (k.row.row.lt i q).2; simp; omega
  · have := (k.row.vals e he).2.2; simp; omega
  · have := k.b1; omega
  · have := (k.row.row.lt _ q).1; omega
  · have := (k.row.vals e he).2.1; omega
theorem PA.og {B g1 c2 : Nat} {a1 a2 : Option Addr} {pr : List Int} {pn : List Nd} {L : List En} {w : World} (h : PA B a1 g1 a2 c2 pr pn L w) : Og w a2 pn := by
  obtain ⟨a, c, e, ho⟩ := h.row.og
  injection e with e1
  rw [h.nd, e1]
  exact ho
theorem pv_same {B T b g1 c1 c2 B' T' b' h1 d1 d2 : Nat} {p1 p2 q1 q2 : Option Addr} {pr : List Int} {pn : List Nd} {L M : List En} (w : World) (x : PV B T b p1 g1 c1 p2 c2 pr pn L w) (y : PV B' T' b' q1 h1 d1 q2 d2 pr pn M w) (hr : pr.length ≤ 40) (hn : pn.length ≤ 400) (hz : ∀ x ∈ pn, x.2.length ≤ 23) :
    Calls Try.prog 18 #[.agg #[.slice p1 pr.length c1, .slice p2 pn.length c2], .agg #[.slice q1 pr.length d1, .slice q2 pn.length d2]] w fun e w' => e = .returned (.bool true) ∧ Below w.heap.size w w' :=
  eqGraphE w p1 p2 q1 q2 g1 h1 c1 c2 d1 d2 pr pn (by omega) (by omega) (fun x hx => by have := hz x hx; omega) x.pa.ir y.pa.ir x.pa.og y.pa.og
/-- A marked answer in its variable. -/
structure PM (b : Nat) (a1 : Option Addr) (g1 c1 : Nat) (a2 : Option Addr) (c2 n1 n2 : Nat) (L : List En) (w : World) : Prop where
  c0 : w.cell? ⟨b, 0, none⟩ = some (.slice a1 n1 c1)
  c1 : w.cell? ⟨b, 1, none⟩ = some (.slice a2 n2 c2)
  ir : Ints w a1 g1 (marks 1 n1)
  ms : MS w a2 (1 + n1) L
theorem PM.below {b g1 c1 c2 n1 n2 : Nat} {a1 a2 : Option Addr} {L : List En} {w w' : World} (h : PM b a1 g1 c1 a2 c2 n1 n2 L w) (hb : Below w.heap.size w w') : PM b a1 g1 c1 a2 c2 n1 n2 L w' :=
  ⟨by rw [hb.cell (p := ⟨b, 0, none⟩) (World.block_lt_of_cell? w _ h.c0)]; exact h.c0, by rw [hb.cell (p := ⟨b, 1, none⟩) (World.block_lt_of_cell? w _ h.c1)]; exact h.c1, h.ir.below hb, h.ms.below hb⟩
theorem PV.small {B T b g1 c1 c2 : Nat} {a1 a2 : Option Addr} {pr : List Int} {pn : List Nd} {L : List En} {w : World} (h : PV B T b a1 g1 c1 a2 c2 pr pn L w) (hz : ∀ x ∈ pn, x.2.length ≤ 23) : ∀ e ∈ L, e.2.2.2.length ≤ 23 := fun e he => hz e.2.2 (by rw [h.pa.nd]; exact List.mem_map.2 ⟨e, he, rfl⟩)
theorem pv_mark {B T b g1 c1 c2 : Nat} {a1 a2 : Option Addr} {pr : List Int} {pn : List Nd} {L : List En} (w : World) (x : PV B T b a1 g1 c1 a2 c2 pr pn L w) (hr : pr.length ≤ 40) (hn : pn.length ≤ 400) (hz : ∀ x ∈ pn, x.2.length ≤ 23) :
    Calls Try.prog 20 #[.agg #[.slice a1 pr.length c1, .slice a2 pn.length c2], .int .i64 1] w fun e w' => e = .returned (.int .i64 ((cnt (1 + pr.length) L pn.length : Nat) : Int)) ∧ PM b a1 g1 c1 a2 c2 pr.length pn.length L w' ∧ Below B w w' := by
  have htw := x.tw
  have hbT := x.bT
  have hbB := x.bB
  refine (markGraphE w a1 a2 B g1 pr.length pn.length c1 c2 1 pr L rfl x.pa.ln (by omega) hn (x.small hz) (by omega) x.pa.ir x.pa.row (by omega) x.pa.b1 x.pa.ne x.pa.nv (fun h => by have := x.g1t h; omega)).mono ?_
  rintro e w' ⟨rfl, h1, h2, h3, h4⟩
  have hk : w'.heap[b]? = w.heap[b]? := h4 b (by omega) x.bg x.bo x.bv
  exact ⟨rfl, ⟨by rw [World.cell?_of_block (a := ⟨b, 0, none⟩) hk]; exact x.c0, by rw [World.cell?_of_block (a := ⟨b, 1, none⟩) hk]; exact x.c1, h1, h2⟩, h3⟩
theorem pm_held {b g1 c1 c2 n1 n2 : Nat} {a1 a2 : Option Addr} {L : List En} (w : World) (x : PM b a1 g1 c1 a2 c2 n1 n2 L w) (hl : L.length = n2) (hr : n1 ≤ 40) (hn : n2 ≤ 400) (hz : ∀ e ∈ L, e.2.2.2.length ≤ 23) :
    Calls Try.prog 25 #[.agg #[.slice a1 n1 c1, .slice a2 n2 c2], .int .i64 1] w fun e w' => e = .returned (.int .i64 ((cnt (1 + n1) L n2 : Nat) : Int)) ∧ Below w.heap.size w w' :=
  heldGraphE w a1 a2 g1 n1 n2 c1 c2 1 L hl (by omega) hn hz (by omega) x.ir x.ms
end Go.Proofs.Ythjfgibflbbgmaa.gs
