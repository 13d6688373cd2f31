/-
  What the drawn device is made of: each of the four steps on a right device gives a right one, whose lines are its own; the box that it lies in.
-/
import Derived.Test.YtgpmpijaggnocaaFlush6
import Derived.Test.YtgpmpijaggnocaaFence2
import Derived.Test.YtgpmpijaggnocaaEvict3
import Derived.Test.YtgpmpijaggnocaaStore5
import Derived.Test.YtgpmpijaggnocaaDevMath
import Derived.Test.YtgpmpijaggnocaaRd4
import Derived.Test.YtgpmpijaggnocaaZeros
namespace Go.Proofs.Ytgpmpijaggnocaa.dev
open Go.RowKit Go.Maps
open later rd

theorem ok_place {safe : ByteArray} {ls : List Ln} (h : DevOk safe ls) : ∀ i (hi : i < ls.length), (i : Int) ≤ ls[i].place := by
  intro i
  induction i with
  | zero => intro hi; have := (h.2.2.2 0 hi).2.1; omega
  | succ i ih =>
    intro hi
    have h1 := ih (by omega)
    have h2 := ok_lt h (i + 1) i hi (by omega)
    omega
theorem ok_len {safe : ByteArray} {ls : List Ln} (h : DevOk safe ls) : ls.length ≤ 128 := by
  by_cases h0 : ls.length = 0
  · omega
  · have h1 := ok_place h (ls.length - 1) (by omega)
    have h2 := (h.2.2.2 (ls.length - 1) (by omega)).2.2.1
    have h3 := h.2.2.1
    omega
/-- What a step on a device hands back: a right one of as many lines, its own. -/
def DevPost (w : World) (safe : ByteArray) (e : Ending) (w' : World) : Prop :=
  ∃ (safe' : ByteArray) (ls' : List Ln) (u : Value), e = .returned (.agg #[.string safe', u]) ∧ DevOk safe' ls' ∧ safe'.size = safe.size ∧ w'.ownsRow w.heap.size 46 3 u ls'.length (cellsOfLines ls') ∧ Below w.heap.size w w'
theorem d_fence (w : World) (safe : ByteArray) (a : Option Addr) (cap : Nat) (ls : List Ln) (hl : Lines w a ls) (hok : DevOk safe ls) :
    Calls Try.prog 59 #[.agg #[.string safe, .slice a ls.length cap]] w (DevPost w safe) := by
  have := ok_len hok
  have := hok.2.2.1
  refine (l2Fence_any w safe a cap ls (by omega) (by omega) hl hok).mono ?_
  rintro e w' ⟨u, rfl, ho, hb⟩
  exact ⟨_, _, u, rfl, fence_ok hok, fenceS_size hok, own_up ho (by omega), hb⟩
theorem d_evict (w : World) (safe : ByteArray) (a : Option Addr) (cap : Nat) (ls : List Ln) (p : Nat) (hl : Lines w a ls) (hok : DevOk safe ls) :
    Calls Try.prog 53 #[.agg #[.string safe, .slice a ls.length cap], .int .i64 (p : Int)] w (DevPost w safe) := by
  have := ok_len hok
  have := hok.2.2.1
  refine (l2Evict_any w safe a cap ls p (by omega) (by omega) hl hok).mono ?_
  rintro e w' ⟨u, rfl, ho, hb⟩
  exact ⟨_, _, u, rfl, evict_ok hok _, evictS_size hok _, own_up ho (by omega), hb⟩
theorem d_flush (w : World) (safe : ByteArray) (a : Option Addr) (cap : Nat) (ls : List Ln) (p : Nat) (hl : Lines w a ls) (hok : DevOk safe ls) :
    Calls Try.prog 54 #[.agg #[.string safe, .slice a ls.length cap], .int .i64 (p : Int)] w (DevPost w safe) := by
  have := ok_len hok
  refine (l2Flush_own w safe a cap ls (p : Int) (by omega) hl).mono ?_
  rintro e w' ⟨g, cp, rfl, _, ho, hb⟩
  exact ⟨_, _, _, rfl, flush_ok hok _, rfl, by rw [flushL_len]; exact ho, hb⟩
theorem d_store (w : World) (safe : ByteArray) (a : Option Addr) (cap : Nat) (ls : List Ln) (A : Int) (p o : Nat) (d : ByteArray) (hA : A = ((64 * p + o : Nat) : Int)) (hl : Lines w a ls) (hok : DevOk safe ls) (hp : p < safe.size / 64) (hd1 : o + d.size ≤ 64) (ho : o < 64) :
    Calls Try.prog 43 #[.agg #[.string safe, .slice a ls.length cap], .int .i64 A, .string d] w (DevPost w safe) := by
  have := ok_len hok
  have := hok.2.2.1
  refine (l2Store_any w safe a cap ls A p o d hA (by omega) (by omega) hl hok hp hd1 ho).mono ?_
  rintro e w' ⟨u, rfl, how, hb⟩
  exact ⟨_, _, u, rfl, store_ok hok p o d hp hd1, rfl, own_up how (by omega), hb⟩

/-- The box in block B with a device, the result's box in block N, and the reader, in a world that has grown out of w. -/
structure Boxed (w wr : World) (R : Nat) (a : Option Addr) (len cap : Nat) (N B : Nat) (safe : ByteArray) (u : Value) (ls : List Ln) : Prop where
  rd : Rd wr R a len cap
  low : R < N
  grown : w.grownBy wr (some R)
  from_ : w.heap.size ≤ N
  res0 : wr.cell? ⟨N, 0, none⟩ = some (.string ⟨#[]⟩)
  res1 : wr.cell? ⟨N, 1, none⟩ = some (.slice none 0 0)
  fres0 : wr.frozen? ⟨N, 0, none⟩ = false
  fres1 : wr.frozen? ⟨N, 1, none⟩ = false
  lt : N < B
  box0 : wr.cell? ⟨B, 0, none⟩ = some (.string safe)
  box1 : wr.cell? ⟨B, 1, none⟩ = some u
  fbox0 : wr.frozen? ⟨B, 0, none⟩ = false
  fbox1 : wr.frozen? ⟨B, 1, none⟩ = false
  own : wr.ownsRow (B + 1) 46 3 u ls.length (cellsOfLines ls)
theorem Boxed.size {w wr : World} {R : Nat} {a : Option Addr} {len cap N B : Nat} {safe : ByteArray} {u : Value} {ls : List Ln} (h : Boxed w wr R a len cap N B safe u ls) : B < wr.heap.size := World.block_lt_of_cell? wr _ h.box0
theorem Boxed.later {w wr w2 : World} {R : Nat} {a : Option Addr} {len cap N B : Nat} {safe : ByteArray} {u : Value} {ls : List Ln} (h : Boxed w wr R a len cap N B safe u ls) (hb : Below wr.heap.size wr w2) : Boxed w w2 R a len cap N B safe u ls := by
  have hB := h.size
  have hN : N < wr.heap.size := Nat.lt_trans h.lt hB
  exact ⟨h.rd.later hb, h.low, gbelow h.grown hb, h.from_, by rw [hb.cell (p := ⟨N, 0, none⟩) hN]; exact h.res0, by rw [hb.cell (p := ⟨N, 1, none⟩) hN]; exact h.res1, by rw [hb.frozen (p := ⟨N, 0, none⟩) hN]; exact h.fres0, by rw [hb.frozen (p := ⟨N, 1, none⟩) hN]; exact h.fres1, h.lt,
    by rw [hb.cell (p := ⟨B, 0, none⟩) hB]; exact h.box0, by rw [hb.cell (p := ⟨B, 1, none⟩) hB]; exact h.box1, by rw [hb.frozen (p := ⟨B, 0, none⟩) hB]; exact h.fbox0, by rw [hb.frozen (p := ⟨B, 1, none⟩) hB]; exact h.fbox1, own_below h.own hb⟩
theorem frozen_grown {w w' : World} {r b o : Nat} (hg : w.grownBy w' (some r)) (hb : b ≠ r) (hs : b < w.heap.size) : w'.frozen? ⟨b, o, none⟩ = w.frozen? ⟨b, o, none⟩ :=
  World.frozen?_of_block (hg.block b hs (by simpa using hb))
theorem cell_grown {w w' : World} {r b o : Nat} {v : Value} (hg : w.grownBy w' (some r)) (hb : b ≠ r) (e : w.cell? ⟨b, o, none⟩ = some v) : w'.cell? ⟨b, o, none⟩ = some v := hg.cell e (by simpa using hb)
theorem Boxed.drawn {w wr w2 : World} {R : Nat} {a : Option Addr} {len cap N B : Nat} {safe : ByteArray} {u : Value} {ls : List Ln} (h : Boxed w wr R a len cap N B safe u ls) (hr : Rd w2 R a len cap) (hg : wr.grownBy w2 (some R)) : Boxed w w2 R a len cap N B safe u ls := by
  have hB := h.size
  have hN : N < wr.heap.size := Nat.lt_trans h.lt hB
  have h1 := h.low
  have h2 := h.lt
  have nN : N ≠ R := by omega
  have nB : B ≠ R := by omega
  refine ⟨hr, h.low, gtrans h.grown hg, h.from_, cell_grown hg nN h.res0, cell_grown hg nN h.res1, by rw [frozen_grown hg nN hN]; exact h.fres0, by rw [frozen_grown hg nN hN]; exact h.fres1, h.lt,
    cell_grown hg nB h.box0, cell_grown hg nB h.box1, by rw [frozen_grown hg nB hB]; exact h.fbox0, by rw [frozen_grown hg nB hB]; exact h.fbox1, h.own.kept hg ?_⟩
  rcases hv : u.ownBlock with _ | k
  · exact .inl rfl
  · exact .inr (fun q => by have := (h.own.lt k hv).1; simp at q; omega)
theorem own_set2 {w : World} {B C : Nat} {v : Value} {n : Nat} {xs : List Value} (h : w.ownsRow (B + 1) 46 3 v n xs) (hC : C ≤ B) (S V : Value) :
    ((w.setCell ⟨C, 0, none⟩ S).setCell ⟨C, 1, none⟩ V).ownsRow (B + 1) 46 3 v n xs := by
  have hne : v.ownBlock = none ∨ v.ownBlock ≠ some C := by
    rcases hv : v.ownBlock with _ | k
    · exact .inl rfl
    · exact .inr (fun q => by have := (h.lt k hv).1; simp at q; omega)
  exact (h.kept (grown_set w C 0 S) hne).kept (grown_set _ C 1 V) hne
theorem set2_cells {w : World} {C : Nat} {x y : Value} (h0 : w.cell? ⟨C, 0, none⟩ = some x) (h1 : w.cell? ⟨C, 1, none⟩ = some y) (S V : Value) :
    ((w.setCell ⟨C, 0, none⟩ S).setCell ⟨C, 1, none⟩ V).cell? ⟨C, 0, none⟩ = some S ∧ ((w.setCell ⟨C, 0, none⟩ S).setCell ⟨C, 1, none⟩ V).cell? ⟨C, 1, none⟩ = some V := by
  have ne : (⟨C, 0, none⟩ : Addr) ≠ ⟨C, 1, none⟩ := by simp
  exact ⟨by rw [World.cell?_setCell_other _ _ _ _ (by simp)]; exact World.cell?_setCell_same _ _ _ h0, World.cell?_setCell_same _ _ _ (by rw [World.cell?_setCell_other _ _ _ _ (by simp)]; exact h1)⟩
theorem set2_other {w : World} {C D o : Nat} (hne : D ≠ C) (S V : Value) :
    ((w.setCell ⟨C, 0, none⟩ S).setCell ⟨C, 1, none⟩ V).cell? ⟨D, o, none⟩ = w.cell? ⟨D, o, none⟩ := by
  have ne : ∀ i, (⟨D, o, none⟩ : Addr) ≠ ⟨C, i, none⟩ := fun i q => hne (congrArg Addr.block q)
  rw [World.cell?_setCell_other _ _ _ _ (by first | exact ne _ | exact Ne.symm (ne _)), World.cell?_setCell_other _ _ _ _ (by first | exact ne _ | exact Ne.symm (ne _))]
theorem set2_frozen {w : World} {C : Nat} (p : Addr) (S V : Value) : ((w.setCell ⟨C, 0, none⟩ S).setCell ⟨C, 1, none⟩ V).frozen? p = w.frozen? p := by
  rw [World.frozen?_setCell, World.frozen?_setCell]
theorem Boxed.put {w wr : World} {R : Nat} {a : Option Addr} {len cap N B : Nat} {safe : ByteArray} {u : Value} {ls : List Ln} (h : Boxed w wr R a len cap N B safe u ls) (safe' : ByteArray) (u' : Value) (ls' : List Ln) (ho : wr.ownsRow (B + 1) 46 3 u' ls'.length (cellsOfLines ls')) :
    Boxed w ((wr.setCell ⟨B, 0, none⟩ (.string safe')).setCell ⟨B, 1, none⟩ u') R a len cap N B safe' u' ls' := by
  have h1 := h.low
  have h2 := h.lt
  have h3 := h.from_
  have hb : Below (R + 1) wr ((wr.setCell ⟨B, 0, none⟩ (.string safe')).setCell ⟨B, 1, none⟩ u') := ((Below.refl _ _).setCell (p := ⟨B, 0, none⟩) (by show R + 1 ≤ B; omega) _).setCell (p := ⟨B, 1, none⟩) (by show R + 1 ≤ B; omega) _
  have hg : w.grownBy ((wr.setCell ⟨B, 0, none⟩ (.string safe')).setCell ⟨B, 1, none⟩ u') (some R) := by
    have hw : Below w.heap.size wr ((wr.setCell ⟨B, 0, none⟩ (.string safe')).setCell ⟨B, 1, none⟩ u') := ((Below.refl _ _).setCell (p := ⟨B, 0, none⟩) (by show w.heap.size ≤ B; omega) _).setCell (p := ⟨B, 1, none⟩) (by show w.heap.size ≤ B; omega) _
    have hgr := h.grown
    exact ⟨hw.os.trans hgr.os, hw.tape.trans hgr.tape, hw.output.trans hgr.output, Nat.le_trans hgr.size hw.size, fun k hk hn => (hw.block k hk).trans (hgr.block k hk hn)⟩
  obtain ⟨c0, c1⟩ := set2_cells h.box0 h.box1 (.string safe') u'
  exact ⟨h.rd.above hb, h.low, hg, h.from_, by rw [set2_other (by omega)]; exact h.res0, by rw [set2_other (by omega)]; exact h.res1, by rw [set2_frozen]; exact h.fres0, by rw [set2_frozen]; exact h.fres1, h.lt, c0, c1, by rw [set2_frozen]; exact h.fbox0, by rw [set2_frozen]; exact h.fbox1, own_set2 ho (Nat.le_refl _) _ _⟩
theorem Boxed.lines {w wr : World} {R : Nat} {a : Option Addr} {len cap N B : Nat} {safe : ByteArray} {u : Value} {ls : List Ln} (h : Boxed w wr R a len cap N B safe u ls) :
    ∃ aa g cp, u = .slice aa ls.length cp ∧ B + 1 ≤ g ∧ (0 < ls.length → aa = some ⟨g, 0, none⟩) ∧ Lines wr aa ls := by
  obtain ⟨aa, g, cp, h1, h2, h3, h4, _⟩ := lines_of_row h.own
  exact ⟨aa, g, cp, h1, h2, h3, h4⟩
theorem Boxed.lines_at {w wr : World} {R : Nat} {a : Option Addr} {len cap N B : Nat} {safe : ByteArray} {aa : Option Addr} {cp : Nat} {ls : List Ln} (h : Boxed w wr R a len cap N B safe (.slice aa ls.length cp) ls) : Lines wr aa ls := by
  obtain ⟨aa', g, cp', h1, h2, h3, h4⟩ := h.lines
  injection h1 with q1
  rw [q1]
  exact h4
theorem Boxed.drew {w wr : World} {R : Nat} {a : Option Addr} {len cap N B : Nat} {safe : ByteArray} {u : Value} {ls : List Ln} (h : Boxed w wr R a len cap N B safe u ls) : Boxed w wr.drew R a len cap N B safe u ls :=
  h.later ⟨rfl, rfl, rfl, Nat.le_refl _, fun _ _ => rfl⟩
theorem Boxed.alloc {w wr : World} {R : Nat} {a : Option Addr} {len cap N B : Nat} {safe : ByteArray} {u : Value} {ls : List Ln} (h : Boxed w wr R a len cap N B safe u ls) (o : Obj) : Boxed w (wr.alloc o) R a len cap N B safe u ls :=
  h.later ((Below.refl _ _).alloc (Nat.le_refl _) o)
/-- A step on the device in the box, stored back. -/
theorem Boxed.stepped {w w2 w3 : World} {R : Nat} {a : Option Addr} {len cap N B : Nat} {safe : ByteArray} {u : Value} {ls : List Ln} (h : Boxed w w2 R a len cap N B safe u ls) {safe' : ByteArray} {u' : Value} {ls' : List Ln} (ho : w3.ownsRow w2.heap.size 46 3 u' ls'.length (cellsOfLines ls')) (hb : Below w2.heap.size w2 w3) :
    Boxed w ((w3.setCell ⟨B, 0, none⟩ (.string safe')).setCell ⟨B, 1, none⟩ u') R a len cap N B safe' u' ls' :=
  (h.later hb).put safe' u' ls' (own_up ho h.size)
theorem grown_up {w wr w2 : World} {R B : Nat} (h : w.grownBy wr (some R)) (hb : Below (B + 1) wr w2) (hw : w.heap.size ≤ B) : w.grownBy w2 (some R) :=
  ⟨hb.os.trans h.os, hb.tape.trans h.tape, hb.output.trans h.output, Nat.le_trans h.size hb.size, fun k hk hn => (hb.block k (by omega)).trans (h.block k hk hn)⟩
/-- What lies up to the box is kept; the lines are told anew. -/
theorem Boxed.kept {w wr w2 : World} {R : Nat} {a : Option Addr} {len cap N B : Nat} {safe : ByteArray} {u : Value} {ls ls' : List Ln} (h : Boxed w wr R a len cap N B safe u ls) (hb : Below (B + 1) wr w2) (ho : w2.ownsRow (B + 1) 46 3 u ls'.length (cellsOfLines ls')) : Boxed w w2 R a len cap N B safe u ls' := by
  have h1 := h.low
  have h2 := h.lt
  have h3 := h.from_
  exact ⟨h.rd.above (hb.mono (by omega)), h.low, grown_up h.grown hb (by omega), h.from_, by rw [hb.cell (p := ⟨N, 0, none⟩) (by show N < B + 1; omega)]; exact h.res0, by rw [hb.cell (p := ⟨N, 1, none⟩) (by show N < B + 1; omega)]; exact h.res1, by rw [hb.frozen (p := ⟨N, 0, none⟩) (by show N < B + 1; omega)]; exact h.fres0, by rw [hb.frozen (p := ⟨N, 1, none⟩) (by show N < B + 1; omega)]; exact h.fres1, h.lt,
    by rw [hb.cell (p := ⟨B, 0, none⟩) (Nat.lt_succ_self B)]; exact h.box0, by rw [hb.cell (p := ⟨B, 1, none⟩) (Nat.lt_succ_self B)]; exact h.box1, by rw [hb.frozen (p := ⟨B, 0, none⟩) (Nat.lt_succ_self B)]; exact h.fbox0, by rw [hb.frozen (p := ⟨B, 1, none⟩) (Nat.lt_succ_self B)]; exact h.fbox1, ho⟩
theorem own_set1 {w : World} {B C i : Nat} {v : Value} {n : Nat} {xs : List Value} (h : w.ownsRow (B + 1) 46 3 v n xs) (hC : C ≤ B) (S : Value) : (w.setCell ⟨C, i, none⟩ S).ownsRow (B + 1) 46 3 v n xs := by
  have hne : v.ownBlock = none ∨ v.ownBlock ≠ some C := by
    rcases hv : v.ownBlock with _ | k
    · exact .inl rfl
    · exact .inr (fun q => by have := (h.lt k hv).1; simp at q; omega)
  exact h.kept (grown_set w C i S) hne
theorem Boxed.put0 {w wr : World} {R : Nat} {a : Option Addr} {len cap N B : Nat} {safe : ByteArray} {u : Value} {ls : List Ln} (h : Boxed w wr R a len cap N B safe u ls) (safe' : ByteArray) : Boxed w (wr.setCell ⟨B, 0, none⟩ (.string safe')) R a len cap N B safe' u ls := by
  have h1 := h.low
  have h2 := h.lt
  have h3 := h.from_
  have hb : Below B wr (wr.setCell ⟨B, 0, none⟩ (.string safe')) := (Below.refl _ _).setCell (p := ⟨B, 0, none⟩) (Nat.le_refl _) _
  have hg : w.grownBy (wr.setCell ⟨B, 0, none⟩ (.string safe')) (some R) := by
    have hgr := h.grown
    exact ⟨hb.os.trans hgr.os, hb.tape.trans hgr.tape, hb.output.trans hgr.output, Nat.le_trans hgr.size hb.size, fun k hk hn => (hb.block k (by omega)).trans (hgr.block k hk hn)⟩
  exact ⟨h.rd.above (hb.mono (by omega)), h.low, hg, h.from_, by rw [hb.cell (p := ⟨N, 0, none⟩) h2]; exact h.res0, by rw [hb.cell (p := ⟨N, 1, none⟩) h2]; exact h.res1, by rw [hb.frozen (p := ⟨N, 0, none⟩) h2]; exact h.fres0, by rw [hb.frozen (p := ⟨N, 1, none⟩) h2]; exact h.fres1, h.lt,
    World.cell?_setCell_same _ _ _ h.box0, by rw [World.cell?_setCell_other _ _ _ _ (by simp)]; exact h.box1, by rw [World.frozen?_setCell]; exact h.fbox0, by rw [World.frozen?_setCell]; exact h.fbox1, own_set1 h.own (Nat.le_refl _) _⟩
/-- One line more behind those of the box. -/
theorem Boxed.appended {w w6 w7 : World} {R : Nat} {a : Option Addr} {len cap N B : Nat} {safe : ByteArray} {u u' : Value} {ls : List Ln} (h : Boxed w w6 R a len cap N B safe u ls) (l : Ln) {T : TypeId} (ho : w7.ownsRow (B + 1) 46 3 u' (ls.length + 1) (cellsOfLines ls ++ [.int .i64 l.place, .string l.data, .string l.sent])) (hg : (w6.alloc (.cells #[.int .i64 l.place, .string l.data, .string l.sent] T)).grownBy w7 u.ownBlock) :
    w7.cell? ⟨B, 1, none⟩ = some u ∧ w7.frozen? ⟨B, 1, none⟩ = false ∧ Boxed w (w7.setCell ⟨B, 1, none⟩ u') R a len cap N B safe u' (ls ++ [l]) := by
  have hB := h.size
  have h1 := h.low
  have h2 := h.lt
  have h3 := h.from_
  have ha : Below (B + 1) w6 (w6.alloc (.cells #[.int .i64 l.place, .string l.data, .string l.sent] T)) := (Below.refl _ _).alloc hB _
  have hb : Below (B + 1) w6 w7 := by
    refine ha.trans ⟨hg.os, hg.tape, hg.output, hg.size, fun k hk => hg.block k (Nat.lt_of_lt_of_le hk (Nat.le_trans hB ha.size)) ?_⟩
    intro q
    have := (h.own.lt k q.symm).1
    omega
  have hb' : Below B w6 (w7.setCell ⟨B, 1, none⟩ u') := (hb.mono (Nat.le_succ B)).setCell (p := ⟨B, 1, none⟩) (Nat.le_refl _) _
  have c1 : w7.cell? ⟨B, 1, none⟩ = some u := by rw [hb.cell (p := ⟨B, 1, none⟩) (Nat.lt_succ_self B)]; exact h.box1
  have c0 : w7.cell? ⟨B, 0, none⟩ = some (.string safe) := by rw [hb.cell (p := ⟨B, 0, none⟩) (Nat.lt_succ_self B)]; exact h.box0
  have f1 : w7.frozen? ⟨B, 1, none⟩ = false := by rw [hb.frozen (p := ⟨B, 1, none⟩) (Nat.lt_succ_self B)]; exact h.fbox1
  have f0 : w7.frozen? ⟨B, 0, none⟩ = false := by rw [hb.frozen (p := ⟨B, 0, none⟩) (Nat.lt_succ_self B)]; exact h.fbox0
  have hg' : w.grownBy (w7.setCell ⟨B, 1, none⟩ u') (some R) := by
    have hgr := h.grown
    exact ⟨hb'.os.trans hgr.os, hb'.tape.trans hgr.tape, hb'.output.trans hgr.output, Nat.le_trans hgr.size hb'.size, fun k hk hn => (hb'.block k (by omega)).trans (hgr.block k hk hn)⟩
  have ho2 : w7.ownsRow (B + 1) 46 3 u' (ls ++ [l]).length (cellsOfLines (ls ++ [l])) := by
    rw [cellsOfLines_snoc]
    simpa using ho
  refine ⟨c1, f1, h.rd.above (hb'.mono (by omega)), h.low, hg', h.from_, by rw [hb'.cell (p := ⟨N, 0, none⟩) h2]; exact h.res0, by rw [hb'.cell (p := ⟨N, 1, none⟩) h2]; exact h.res1, by rw [hb'.frozen (p := ⟨N, 0, none⟩) h2]; exact h.fres0, by rw [hb'.frozen (p := ⟨N, 1, none⟩) h2]; exact h.fres1, h.lt,
    by rw [World.cell?_setCell_other _ _ _ _ (by simp)]; exact c0, World.cell?_setCell_same _ _ _ c1, by rw [World.frozen?_setCell]; exact f0, by rw [World.frozen?_setCell]; exact f1, own_set1 ho2 (Nat.le_refl _) _⟩
theorem tbl_now {w2 w3 : World} {R u : Nat} {C : Array Value} {T : TypeId} {x : Value} (h : (w2.alloc (.cells C T)).grownBy w3 (some R)) (hR : R < w2.heap.size) (hx : C[u]? = some x) : w3.cell? ⟨w2.heap.size, u, none⟩ = some x := by
  refine h.cell (a := ⟨w2.heap.size, u, none⟩) ?_ (fun e => Nat.ne_of_gt hR (by simpa using e))
  rw [World.cell?_alloc_new]; exact hx
theorem some_text (u : Nat) (hu : (u : Int) < 4) : ∃ x : ByteArray, x.size ≤ 3 ∧ #[Value.string ⟨#[97]⟩, .string ⟨#[98, 99]⟩, .string ⟨#[0]⟩, .string ⟨#[120, 121, 122]⟩][u]? = some (.string x) := by
  have hcase : u = 0 ∨ u = 1 ∨ u = 2 ∨ u = 3 := by omega
  rcases hcase with rfl | rfl | rfl | rfl
  · exact ⟨_, by decide, rfl⟩
  · exact ⟨_, by decide, rfl⟩
  · exact ⟨_, by decide, rfl⟩
  · exact ⟨_, by decide, rfl⟩
end Go.Proofs.Ytgpmpijaggnocaa.dev
