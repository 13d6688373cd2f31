/-
  Drawn objects: a type's number, and its values; nothing that was there is written but the reader's own place.
-/
import Derived.Test.YtnacdfoejmjlgaaDrawTy
import Derived.Test.YtnacdfoejmjlgaaDrawR
import Derived.Test.YtnacdfoejmjlgaaInts
import Derived.Deep.RegionHeld3
namespace Go.Proofs.Ytnacdfoejmjlgaa.rd
open Go.RowKit
open txt ints

/-- An object that is being drawn: in block cb, and the block rb of the answer. -/
structure Ob (w : World) (R rb cb : Nat) (a : Option Addr) (len cap : Nat) (t : Int) (v : Value) (xs : List Int) (wr : World) : Prop where
  c0 : wr.cell? ⟨cb, 0, none⟩ = some (.int .i64 t)
  c1 : wr.cell? ⟨cb, 1, none⟩ = some v
  fr : ∀ i, wr.frozen? ⟨cb, i, none⟩ = false
  r : ∀ i, i < 2 → ∃ v, wr.cell? ⟨rb, i, none⟩ = some v
  rf : ∀ i, wr.frozen? ⟨rb, i, none⟩ = false
  own : wr.ownsRow (cb + 1) 2 1 v xs.length (xs.map (Value.int .i64))
  rd : Rd wr R a len cap
  grown : w.grownBy wr (some R)
  hR : R < w.heap.size
  atr : w.heap.size ≤ rb
  atc : rb < cb
section
variable {w : World} {R rb cb : Nat} {a : Option Addr} {len cap : Nat} {t : Int} {v : Value} {xs : List Int} {wr w' : World}
theorem Ob.ltc (h : Ob w R rb cb a len cap t v xs wr) : cb < wr.heap.size := World.block_lt_of_cell? wr _ h.c0
theorem Ob.drawn (h : Ob w R rb cb a len cap t v xs wr) (hg : wr.grownBy w' (some R)) (hr : Rd w' R a len cap) : Ob w R rb cb a len cap t v xs w' := by
  have hRw := h.hR
  have hc := hg.block cb h.ltc (fun e => by have := Option.some.inj e; have := h.atr; have := h.atc; omega)
  have hb := hg.block rb (by have := h.ltc; have := h.atc; omega) (fun e => by have := Option.some.inj e; have := h.atr; omega)
  refine ⟨by rw [World.cell?_of_block (a := ⟨cb, 0, none⟩) hc]; exact h.c0, by rw [World.cell?_of_block (a := ⟨cb, 1, none⟩) hc]; exact h.c1, fun i => by rw [World.frozen?_of_block (a := ⟨cb, i, none⟩) hc]; exact h.fr i, fun i hi => ?_, fun i => by rw [World.frozen?_of_block (a := ⟨rb, i, none⟩) hb]; exact h.rf i, own_rdT h.own hg (by have := h.atr; have := h.atc; omega), hr, gtrans h.grown hg, h.hR, h.atr, h.atc⟩
  obtain ⟨v, hv⟩ := h.r i hi
  exact ⟨v, by rw [World.cell?_of_block (a := ⟨rb, i, none⟩) hb]; exact hv⟩
theorem Ob.set (h : Ob w R rb cb a len cap t v xs wr) {t' : Int} {v' : Value} {ys : List Int} (i : Nat) (x : Value)
    (h0 : (wr.setCell ⟨cb, i, none⟩ x).cell? ⟨cb, 0, none⟩ = some (.int .i64 t')) (h1 : (wr.setCell ⟨cb, i, none⟩ x).cell? ⟨cb, 1, none⟩ = some v') (hown : wr.ownsRow (cb + 1) 2 1 v' ys.length (ys.map (Value.int .i64))) : Ob w R rb cb a len cap t' v' ys (wr.setCell ⟨cb, i, none⟩ x) := by
  have hb : Below cb wr (wr.setCell ⟨cb, i, none⟩ x) := (Below.refl _ _).setCell (p := ⟨cb, i, none⟩) (Nat.le_refl _) _
  have hRw := h.hR
  refine ⟨h0, h1, fun i => by rw [World.frozen?_setCell]; exact h.fr i, fun j hj => ?_, fun i => by rw [World.frozen?_setCell]; exact h.rf i, ?_, h.rd.above (hb.mono (by have := h.atr; have := h.atc; omega)), gBt h.grown (hb.mono (by have := h.atr; have := h.atc; omega)), h.hR, h.atr, h.atc⟩
  · obtain ⟨v, hv⟩ := h.r j hj
    exact cell?_setCell_some hv
  · refine hown.kept (row := some cb) ⟨rfl, rfl, rfl, by simp, fun k _ hk => Below.heap_setCell _ _ _ _ (fun e => hk (by rw [e]))⟩ ?_
    cases ho : v'.ownBlock with
    | none => exact .inl rfl
    | some b => exact .inr (by have := (hown.lt b ho).1; simp; omega)
theorem Ob.put0 (h : Ob w R rb cb a len cap t v xs wr) (x : Int) : Ob w R rb cb a len cap x v xs (wr.setCell ⟨cb, 0, none⟩ (.int .i64 x)) :=
  h.set 0 _ (World.cell?_setCell_same _ _ _ h.c0) (by rw [World.cell?_setCell_other _ _ _ _ (by simp)]; exact h.c1) h.own
theorem Ob.put1 (h : Ob w R rb cb a len cap t v xs wr) {v' : Value} {ys : List Int} (hown : wr.ownsRow (cb + 1) 2 1 v' ys.length (ys.map (Value.int .i64))) : Ob w R rb cb a len cap t v' ys (wr.setCell ⟨cb, 1, none⟩ v') :=
  h.set 1 _ (by rw [World.cell?_setCell_other _ _ _ _ (by simp)]; exact h.c0) (World.cell?_setCell_same _ _ _ h.c1) hown
/-- Above the object's block anything may be written. -/
theorem Ob.kept (h : Ob w R rb cb a len cap t v xs wr) (hb : Below (cb + 1) wr w') {ys : List Int} {v' : Value} (hown : w'.ownsRow (cb + 1) 2 1 v' ys.length (ys.map (Value.int .i64))) : w'.cell? ⟨cb, 1, none⟩ = some v ∧ w'.frozen? ⟨cb, 1, none⟩ = false ∧ Ob w R rb cb a len cap t v' ys (w'.setCell ⟨cb, 1, none⟩ v') := by
  have hRw := h.hR
  have hta := h.atr
  have htc := h.atc
  have k0 : w'.cell? ⟨cb, 0, none⟩ = some (.int .i64 t) := by rw [hb.cell (p := ⟨cb, 0, none⟩) (Nat.lt_succ_self _)]; exact h.c0
  have k1 : w'.cell? ⟨cb, 1, none⟩ = some v := by rw [hb.cell (p := ⟨cb, 1, none⟩) (Nat.lt_succ_self _)]; exact h.c1
  have kf : ∀ i, w'.frozen? ⟨cb, i, none⟩ = false := fun i => by rw [hb.frozen (p := ⟨cb, i, none⟩) (Nat.lt_succ_self _)]; exact h.fr i
  have kr : ∀ i, i < 2 → ∃ v, w'.cell? ⟨rb, i, none⟩ = some v := fun i hi => by
    rw [hb.cell (p := ⟨rb, i, none⟩) (show rb < cb + 1 by omega)]; exact h.r i hi
  have krf : ∀ i, w'.frozen? ⟨rb, i, none⟩ = false := fun i => by rw [hb.frozen (p := ⟨rb, i, none⟩) (show rb < cb + 1 by omega)]; exact h.rf i
  have hs : Below cb w' (w'.setCell ⟨cb, 1, none⟩ v') := (Below.refl _ _).setCell (p := ⟨cb, 1, none⟩) (Nat.le_refl _) _
  have hb2 : Below cb wr (w'.setCell ⟨cb, 1, none⟩ v') := (hb.mono (by omega)).trans hs
  refine ⟨k1, kf 1, by rw [World.cell?_setCell_other _ _ _ _ (by simp)]; exact k0, World.cell?_setCell_same _ _ _ k1, fun i => by rw [World.frozen?_setCell]; exact kf i, fun j hj => ?_, fun i => by rw [World.frozen?_setCell]; exact krf i, ?_, h.rd.above (hb2.mono (by omega)), gBt h.grown (hb2.mono (by omega)), h.hR, h.atr, h.atc⟩
  · obtain ⟨v, hv⟩ := kr j hj
    exact cell?_setCell_some hv
  · refine hown.kept (row := some cb) ⟨rfl, rfl, rfl, by simp, fun k _ hk => Below.heap_setCell _ _ _ _ (fun e => hk (by rw [e]))⟩ ?_
    cases ho : v'.ownBlock with
    | none => exact .inl rfl
    | some b => exact .inr (by have := (hown.lt b ho).1; simp; omega)
/-- A value written in its row. -/
theorem Ob.over (h : Ob w R rb cb a len cap t v xs wr) {g cp : Nat} (hv : v = .slice (some ⟨g, 0, none⟩) xs.length cp) (i : Nat) (x : Int) : Ob w R rb cb a len cap t v (xs.set i x) (wr.setCell ⟨g, i, none⟩ (.int .i64 x)) := by
  subst hv
  have hRw := h.hR
  have hta := h.atr
  have htc := h.atc
  have hg : cb + 1 ≤ g := (h.own.lt g rfl).1
  have hb : Below (cb + 1) wr (wr.setCell ⟨g, i, none⟩ (.int .i64 x)) := (Below.refl _ _).setCell (p := ⟨g, i, none⟩) hg _
  have ho := (h.own.stored i (.int .i64 x)).1
  rw [← List.map_set] at ho
  refine ⟨by rw [hb.cell (p := ⟨cb, 0, none⟩) (Nat.lt_succ_self _)]; exact h.c0, by rw [hb.cell (p := ⟨cb, 1, none⟩) (Nat.lt_succ_self _)]; exact h.c1, fun i => by rw [World.frozen?_setCell]; exact h.fr i, fun j hj => ?_, fun i => by rw [World.frozen?_setCell]; exact h.rf i, ?_, h.rd.above (hb.mono (by omega)), gBt h.grown (hb.mono (by omega)), h.hR, h.atr, h.atc⟩
  · obtain ⟨v, hv⟩ := h.r j hj
    exact cell?_setCell_some hv
  · simpa using ho
theorem Ob.cut (h : Ob w R rb cb a len cap t v xs wr) {g cp : Nat} (hv : v = .slice (some ⟨g, 0, none⟩) xs.length cp) (m : Nat) (hm : m ≤ xs.length) : Ob w R rb cb a len cap t (.slice (some ⟨g, 0, none⟩) m cp) (xs.take m) (wr.setCell ⟨cb, 1, none⟩ (.slice (some ⟨g, 0, none⟩) m cp)) := by
  subst hv
  refine h.put1 ?_
  rcases h.own.2 with ⟨h', _⟩ | ⟨g', cap', cur, h', hb, hg, hnc, hcm, hcs, htake⟩
  · simp at h'
  · simp only [Value.slice.injEq, Option.some.injEq, Addr.mk.injEq, and_true, true_and] at h'
    obtain ⟨rfl, rfl⟩ := h'
    have hl : (xs.take m).length = m := by simp; omega
    rw [hl]
    refine ⟨by simp; omega, .inr ⟨g, cp, cur, rfl, hb, hg, by omega, hcm, hcs, ?_⟩⟩
    have h2 := congrArg (List.take m) htake
    rw [List.take_take, Nat.min_eq_left (by omega), ← List.map_take] at h2
    rw [Nat.mul_one]
    exact h2
theorem Ob.some_row (h : Ob w R rb cb a len cap t v xs wr) (h0 : 1 ≤ xs.length) : ∃ g cp, v = .slice (some ⟨g, 0, none⟩) xs.length cp ∧ xs.length ≤ cp ∧ ∀ i, i < xs.length → wr.cell? ⟨g, i, none⟩ = some (.int .i64 (xs.getD i 0)) ∧ wr.frozen? ⟨g, i, none⟩ = false := by
  obtain ⟨a2, g, cp, hv, hg, hI⟩ := ints_of_row h.own
  obtain ⟨e, _, _⟩ := hI 0 (by omega)
  subst e
  refine ⟨g, cp, hv, ?_, fun i hi => ?_⟩
  · rcases h.own.2 with ⟨h', h2⟩ | ⟨g', cap', cur, h', hb, hg, hnc, hcm, hcs, htake⟩
    · omega
    · rw [hv] at h'
      simp only [Value.slice.injEq, Option.some.injEq, Addr.mk.injEq, and_true, true_and] at h'
      omega
  · obtain ⟨_, q1, q2⟩ := hI i hi
    exact ⟨by rw [q1, List.getD_eq_getElem?_getD, List.getElem?_eq_getElem hi]; rfl, q2⟩
theorem Ob.at {g cp n : Nat} (h : Ob w R rb cb a len cap t (.slice (some ⟨g, 0, none⟩) n cp) xs wr) (hn : xs.length = n) (i : Nat) (hi : i < n) : wr.cell? ⟨g, i, none⟩ = some (.int .i64 (xs.getD i 0)) ∧ wr.frozen? ⟨g, i, none⟩ = false := by
  obtain ⟨g', cp', hv, _, hc⟩ := h.some_row (by omega)
  simp only [Value.slice.injEq, Option.some.injEq, Addr.mk.injEq, and_true] at hv
  obtain ⟨rfl, _⟩ := hv
  exact hc i (by omega)
theorem set_wf {ys : List Int} (h : ∀ x ∈ ys, (Lit.int .i64 x).wf = true) (i : Nat) (y : Int) (hy : (Lit.int .i64 y).wf = true) : ∀ x ∈ ys.set i y, (Lit.int .i64 x).wf = true := fun x hx => by
  rcases List.mem_or_eq_of_mem_set hx with q | q
  · exact h x q
  · rw [q]; exact hy
/-- What obj answers. -/
def ObAns (w : World) (R : Nat) (a : Option Addr) (len cap : Nat) (e : Ending) (w' : World) : Prop :=
  ∃ (t : Int) (v : Value), e = .returned (.agg #[.int .i64 t, v]) ∧ (Lit.int .i64 t).wf = true ∧ ∃ xs : List Int, xs.length ≤ 23 ∧ (∀ x ∈ xs, (Lit.int .i64 x).wf = true) ∧ w'.ownsRow w.heap.size 2 1 v xs.length (xs.map (Value.int .i64)) ∧ Rd w' R a len cap ∧ w.grownBy w' (some R)
theorem set2 {W : World} {b : Nat} (h : ∀ i, i < 2 → ∃ v, W.cell? ⟨b, i, none⟩ = some v) (x0 x1 : Value) :
    ((W.setCell ⟨b, 0, none⟩ x0).setCell ⟨b, 1, none⟩ x1).cell? ⟨b, 0, none⟩ = some x0 ∧ ((W.setCell ⟨b, 0, none⟩ x0).setCell ⟨b, 1, none⟩ x1).cell? ⟨b, 1, none⟩ = some x1 := by
  obtain ⟨v0, h0⟩ := h 0 (by decide)
  obtain ⟨v1, h1⟩ := h 1 (by decide)
  refine ⟨?_, ?_⟩
  · rw [World.cell?_setCell_other _ _ _ _ (by simp)]
    exact World.cell?_setCell_same _ _ _ h0
  · exact World.cell?_setCell_same _ _ _ (by rw [World.cell?_setCell_other _ _ _ _ (by simp)]; exact h1)
theorem Ob.done (h : Ob w R rb cb a len cap t v xs wr) (x0 x1 : Value) (ht : (Lit.int .i64 t).wf = true) (hl : xs.length ≤ 23) (hx : ∀ x ∈ xs, (Lit.int .i64 x).wf = true) :
    ObAns w R a len cap (.returned (.agg #[.int .i64 t, v])) ((wr.setCell ⟨rb, 0, none⟩ x0).setCell ⟨rb, 1, none⟩ x1) := by
  have hRw := h.hR
  have hta := h.atr
  have htc := h.atc
  have hb : Below rb wr ((wr.setCell ⟨rb, 0, none⟩ x0).setCell ⟨rb, 1, none⟩ x1) := ((Below.refl rb wr).setCell (p := ⟨rb, 0, none⟩) (Nat.le_refl _) x0).setCell (p := ⟨rb, 1, none⟩) (Nat.le_refl _) x1
  refine ⟨t, v, rfl, ht, xs, hl, hx, ?_, h.rd.above (hb.mono (by omega)), gBt h.grown (hb.mono (by omega))⟩
  have hg : wr.grownBy ((wr.setCell ⟨rb, 0, none⟩ x0).setCell ⟨rb, 1, none⟩ x1) (some rb) := grown_trans (grown_set _ _ _ _) (grown_set _ _ _ _)
  refine (own_mono (B' := w.heap.size) h.own (by omega)).kept hg ?_
  cases ho : v.ownBlock with
  | none => exact .inl rfl
  | some b => exact .inr (by have := (h.own.lt b ho).1; simp; omega)
end
set_option maxHeartbeats 4000000 in
set_option maxRecDepth 20000 in
theorem obj_any (w : World) (R : Nat) (a : Option Addr) (len cap : Nat) (h : Rd w R a len cap) (ta : Option Addr) (tg tc : Nat) (ts : List ByteArray) (hT : Txts w ta tg ts) (hne : tg ≠ R) (h1 : 1 ≤ ts.length) (h3 : ts.length ≤ 3) (h23 : ∀ x ∈ ts, 1 ≤ x.size ∧ x.size ≤ 23) :
    Calls Try.prog 24 #[.pointer (some ⟨R, 0, none⟩), .slice ta ts.length tc] w fun e w' => ObAns w R a len cap e w' := by
  have HR : Hid (Rd w R a len cap) := h
  have HRS : Hid (R < w.heap.size) := h.size
  clear h
  have HTX : Hid (∀ w', w.grownBy w' (some R) → ∀ i (hi : i < ts.length), w'.cell? ⟨tg, i, none⟩ = some (.string ts[i])) := fun w' hg i hi => ((hT.grown hg (fun _ => hne)) i hi).2.1
  have hta : ta = some ⟨tg, 0, none⟩ := (hT 0 (by omega)).1
  subst hta
  have H23 : Hid (∀ x ∈ ts, 1 ≤ x.size ∧ x.size ≤ 23) := h23
  clear hT hne h23
  obtain ⟨V, hV⟩ : ∃ V, V = w.alloc (.cells #[.int .i64 0, .slice none 0 0] 27) := ⟨_, rfl⟩
  have HV : Hid (V = w.alloc (.cells #[.int .i64 0, .slice none 0 0] 27)) := hV
  have HVS : Hid (V.heap.size = w.heap.size + 1) := by show V.heap.size = _; rw [hV]; simp
  have HVR : Hid (Rd V R a len cap) := by
    have h1 : Rd V R a len cap := by rw [hV]; exact HR.out.alloc _
    exact h1
  have HVG : Hid (w.grownBy V (some R)) := by
    have h1 : w.grownBy V (some R) := by rw [hV]; exact galloc (grefl _ _) _
    exact h1
  have HVC : Hid (∀ i, i < 2 → (∃ v, V.cell? ⟨w.heap.size, i, none⟩ = some v)) := fun i hi => by
    rw [hV, World.cell?_alloc_new]
    match i, hi with
    | 0, _ => exact ⟨_, rfl⟩
    | 1, _ => exact ⟨_, rfl⟩
  have HVF : Hid (∀ i, V.frozen? ⟨w.heap.size, i, none⟩ = false) := fun i => by rw [hV]; exact World.frozen?_alloc_new _ _ _ _
  clear hV
  obtain ⟨nt, hnt⟩ : ∃ n, n = ts.length := ⟨_, rfl⟩
  rw [← hnt] at h1 h3 ⊢
  have HNE : Hid (nt = ts.length) := hnt
  clear hnt
  go_enter Try.func24, Try.ntmps24
  go_wp2_with fail
  rw [← HV.out]
  refine (below_pos _ R a len cap HVR.out (nt : Int) (by omega) (by omega)).mono ?_
  rintro e w1 ⟨p, rfl, hp, hr1, hb1⟩
  have hpl : p < ts.length := by have := HNE.out; omega
  obtain ⟨C, hC⟩ : ∃ C, C = w1.alloc (.cells #[.int .i64 (p : Int), .slice none 0 0] 27) := ⟨_, rfl⟩
  have HC : Hid (C = w1.alloc (.cells #[.int .i64 (p : Int), .slice none 0 0] 27)) := hC
  obtain ⟨cb, hcb⟩ : ∃ c, c = w1.heap.size := ⟨_, rfl⟩
  have HCB : Hid (cb = w1.heap.size) := hcb
  have HO : Hid (Ob w R w.heap.size cb a len cap (p : Int) (.slice none 0 0) [] C) := by
    have hblk := hb1.block w.heap.size (by rw [HVS.out]; omega) (fun e => by have := Option.some.inj e; have := HRS.out; omega)
    have hlt3 : w.heap.size < w1.heap.size := by have h1 := hb1.size; rw [HVS.out] at h1; omega
    have hba : Below w1.heap.size w1 C := by rw [hC]; exact (Below.refl _ _).alloc (Nat.le_refl _) _
    have hRW : R < w.heap.size := HRS.out
    refine ⟨by rw [hcb, hC, World.cell?_alloc_new]; rfl, by rw [hcb, hC, World.cell?_alloc_new]; rfl, fun i => by rw [hcb, hC]; exact World.frozen?_alloc_new _ _ _ _, fun i hi => ?_, fun i => ?_, ⟨rfl, .inl ⟨rfl, rfl⟩⟩, by rw [hC]; exact hr1.alloc _, by rw [hC]; exact galloc (gtrans HVG.out hb1) _, hRW, Nat.le_refl _, by omega⟩
    · obtain ⟨v, hv⟩ := HVC.out i hi
      exact ⟨v, by rw [hba.cell (p := ⟨w.heap.size, i, none⟩) hlt3, World.cell?_of_block (a := ⟨w.heap.size, i, none⟩) hblk]; exact hv⟩
    · rw [hba.frozen (p := ⟨w.heap.size, i, none⟩) hlt3, World.frozen?_of_block (a := ⟨w.heap.size, i, none⟩) hblk]
      exact HVF.out i
  obtain ⟨kk, hkk⟩ : ∃ k, k = ts[p] := ⟨_, rfl⟩
  have hk23 : 1 ≤ kk.size ∧ kk.size ≤ 23 := by rw [hkk]; exact H23.out _ (List.getElem_mem hpl)
  obtain ⟨hk1, hk2⟩ := hk23
  have HK : Hid (∀ w', w.grownBy w' (some R) → w'.cell? ⟨tg, p, none⟩ = some (.string kk)) := fun w' hg => by rw [hkk]; exact HTX.out w' hg p hpl
  have hpi : (p : Int) < (nt : Int) := hp
  have hp0 : (0 : Int) ≤ (p : Int) := by omega
  have HPW : Hid ((Lit.int .i64 (p : Int)).wf = true) := wf_i64 _ (by omega) (by omega)
  have HNT : Hid (nt ≤ 3) := h3
  clear hC hcb hr1 hb1 hkk hpl hp HNE HTX H23 HVC HVF HVG HVR HVS
  go_wp2
  rw [← HC.out, ← HCB.out]
  go_loopw [6] (fun i wr => ∃ (k : Nat) (v : Value) (xs : List Int), i = .int .i64 (k : Int) ∧ k ≤ kk.size ∧ xs.length = k ∧ (∀ x ∈ xs, (Lit.int .i64 x).wf = true) ∧ Ob w R w.heap.size cb a len cap (p : Int) v xs wr) (fun i _ => kk.size - (intOf i).toNat)
  case atStart => exact ⟨0, _, [], rfl, Nat.zero_le _, rfl, fun x hx => by simp at hx, HO.out⟩
  case round =>
    obtain ⟨k, v, xs, rfl, hk, hxk, hxw, hob⟩ := hrel
    have HX : Hid (Ob w R w.heap.size cb a len cap (p : Int) v xs wr) := hob
    have HXW : Hid (∀ x ∈ xs, (Lit.int .i64 x).wf = true) := hxw
    have HXK : Hid (xs.length = k) := hxk
    have c0 := hob.c0
    have c3 := HK.out wr hob.grown
    clear hob hxw hxk
    by_cases hlt : k < kk.size
    · have hlti : (k : Int) < (kk.size : Int) := by omega
      go_wp2_with fail
      refine (odd_any _ R a len cap HX.out.rd).mono ?_
      rintro e w2 ⟨y, rfl, hy, hr2, hb2⟩
      have hO2 := HX.out.drawn hb2 hr2
      have HX2 : Hid (Ob w R w.heap.size cb a len cap (p : Int) v xs w2) := hO2
      have HY : Hid ((Lit.int .i64 y).wf = true) := hy
      clear c0 c3 hr2 hb2 hy
      have c0 := hO2.c0
      have c1 := hO2.c1
      have c3 := HK.out w2 hO2.grown
      clear hO2
      cases hrk : ((kk[k].toNat : Int) == 114) with
      | true =>
        go_wp2_with fail
        refine (below_pos _ R a len cap HX2.out.rd 20 (by omega) (by omega)).mono ?_
        rintro e w3 ⟨u3, rfl, hu3, hr3, hb3⟩
        have HX3 : Hid (Ob w R w.heap.size cb a len cap (p : Int) v xs w3) := HX2.out.drawn hb3 hr3
        clear c0 c1 c3 hr3 hb3
        go_wp2_with fail
        refine (below_pos _ R a len cap HX3.out.rd 2 (by omega) (by omega)).mono ?_
        rintro e w4 ⟨u4, rfl, hu4, hr4, hb4⟩
        have hO4 := HX3.out.drawn hb4 hr4
        have HX4 : Hid (Ob w R w.heap.size cb a len cap (p : Int) v xs w4) := hO4
        clear hr4 hb4
        have c1 := hO4.c1
        have HYW : Hid ((Lit.int .i64 (2 * (u3 : Int) + (u4 : Int))).wf = true) := wf_i64 _ (by omega) (by omega)
        clear hO4
        go_wp2_with (refine wpList_push w4 (by rfl) _ _ (by rfl) (cb + 1) v xs (2 * (u3 : Int) + (u4 : Int)) HX4.out.own (by rfl) (by rfl) (by have := HXK.out; omega) HX4.out.ltc ?_; intro g cp w5 hown5 hb5 hs5; obtain ⟨k5, f5, hO5⟩ := HX4.out.kept hb5 (ys := xs ++ [(2 * (u3 : Int) + (u4 : Int))]) hown5; have HX5 : Hid (Ob w R w.heap.size cb a len cap (p : Int) (.slice (some ⟨g, 0, none⟩) (xs.length + 1) cp) (xs ++ [(2 * (u3 : Int) + (u4 : Int))]) (w5.setCell ⟨cb, 1, none⟩ (.slice (some ⟨g, 0, none⟩) (xs.length + 1) cp))) := hO5; clear hown5 hb5 hs5 hO5)
        go_roundw
        case rel => exact ⟨k + 1, _, xs ++ [(2 * (u3 : Int) + (u4 : Int))], by go_num, by omega, by have := HXK.out; simp; omega, fun x hx => by
          rcases List.mem_append.1 hx with h | h
          · exact HXW.out x h
          · simp at h; rw [h]; exact HYW.out, HX5.out⟩
        case measure => simp [intOf]; omega
      | false =>
        go_wp2_with (refine wpList_push w2 (by rfl) _ _ (by rfl) (cb + 1) v xs y HX2.out.own (by rfl) (by rfl) (by have := HXK.out; omega) HX2.out.ltc ?_; intro g cp w5 hown5 hb5 hs5; obtain ⟨k5, f5, hO5⟩ := HX2.out.kept hb5 (ys := xs ++ [y]) hown5; have HX5 : Hid (Ob w R w.heap.size cb a len cap (p : Int) (.slice (some ⟨g, 0, none⟩) (xs.length + 1) cp) (xs ++ [y]) (w5.setCell ⟨cb, 1, none⟩ (.slice (some ⟨g, 0, none⟩) (xs.length + 1) cp))) := hO5; clear hown5 hb5 hs5 hO5)
        go_roundw
        case rel => exact ⟨k + 1, _, xs ++ [y], by go_num, by omega, by have := HXK.out; simp; omega, fun x hx => by
          rcases List.mem_append.1 hx with h | h
          · exact HXW.out x h
          · simp at h; rw [h]; exact HY.out, HX5.out⟩
        case measure => simp [intOf]; omega
    · have hkeq : k = kk.size := by omega
      subst hkeq
      have hge : ¬ ((kk.size : Nat) : Int) < (kk.size : Int) := by omega
      obtain ⟨g, cp, hv, hcp, _⟩ := HX.out.some_row (by have := HXK.out; omega)
      rw [HXK.out] at hv hcp
      subst hv
      have HCP : Hid (kk.size ≤ cp) := hcp
      clear hcp
      go_wp2_with fail
      refine (below_pos _ R a len cap HX.out.rd 20 (by omega) (by omega)).mono ?_
      rintro e w6 ⟨q, rfl, hq, hr6, hb6⟩
      have hO6 := HX.out.drawn hb6 hr6
      have HX6 : Hid (Ob w R w.heap.size cb a len cap (p : Int) (.slice (some ⟨g, 0, none⟩) kk.size cp) xs w6) := hO6
      clear c0 c3 hr6 hb6 hO6 hlt hk
      by_cases hq0 : q = 0
      · subst hq0
        go_wp2_with fail
        refine (off_any _ R a len cap HX6.out.rd 0 ((nt : Int) - 1) (by omega) (by omega) (by omega)).mono ?_
        rintro e w7 ⟨t7, rfl, ht7, hr7, hb7⟩
        have hO7 := HX6.out.drawn hb7 hr7
        have c0 := hO7.c0
        have cf := hO7.fr 0
        have HX9 : Hid (Ob w R w.heap.size cb a len cap t7 (.slice (some ⟨g, 0, none⟩) kk.size cp) xs (w7.setCell ⟨cb, 0, none⟩ (.int .i64 t7))) := hO7.put0 t7
        have HT9 : Hid ((Lit.int .i64 t7).wf = true) := ht7
        have HL9 : Hid (xs.length ≤ 23) := by show xs.length ≤ 23; have := HXK.out; omega
        clear hr7 hb7 hO7 ht7
        have hO9 := HX9.out
        obtain ⟨⟨v0, e0⟩, ⟨v1, e1⟩⟩ := And.intro (hO9.r 0 (by decide)) (hO9.r 1 (by decide))
        have f0 := hO9.rf 0
        have f1 := hO9.rf 1
        have g0 := hO9.c0
        have g1 := hO9.c1
        clear hO9
        have HD : Hid (ObAns _ _ _ _ _ _ _) := HX9.out.done (.int .i64 t7) (.slice (some ⟨g, 0, none⟩) kk.size cp) HT9.out HL9.out HXW.out
        have HQ : Hid (_ ∧ _) := set2 HX9.out.r (.int .i64 t7) (.slice (some ⟨g, 0, none⟩) kk.size cp)
        go_wp2
        refine bodyPost_ret (v := .agg #[.int .i64 t7, (.slice (some ⟨g, 0, none⟩) kk.size cp)]) ?_ rfl HD.out
        obtain ⟨q0, q1⟩ := HQ.out
        simp [results, Try.results24, go_sem, q0, q1]
      · by_cases hq1 : q = 1
        · subst hq1
          have HO6 : Hid (Ob w R w.heap.size cb a len cap (p : Int) (.slice (some ⟨g, 0, none⟩) kk.size cp) xs w6.drew) := HX6.out.drawn (gdraws (grefl _ _) 1) (HX6.out.rd.draws 1)
          have c1 := HX6.out.c1
          have hcp := HCP.out
          have hcpi : (kk.size : Int) ≤ (cp : Int) := by omega
          have hw1 : IntKind.i64.wrap ((kk.size : Int) + 1) = (kk.size : Int) + 1 := by rw [IntKind.wrap_i64]; omega
          go_wp2_with fail
          go_region_with (go_at_call 25; (try rw [hw1]); refine (below_pos _ R a len cap HO6.out.rd ((kk.size : Int) + 1) (by omega) (by omega)).mono ?_; rintro e wB ⟨u3, rfl, hu3, hrB, hbB⟩; have hO7 := HO6.out.drawn hbB hrB; have HO7 : Hid (Ob w R w.heap.size cb a len cap (p : Int) (.slice (some ⟨g, 0, none⟩) kk.size cp) xs wB) := hO7; clear hrB hbB; have k0 := hO7.c1; have kf := hO7.fr 1; have hu3i : (u3 : Int) ≤ (cp : Int) := (by omega); have hu30 : (0 : Int) ≤ (u3 : Int) := (by omega); clear hO7)
          all_goals
            have hu4 : u3 ≤ kk.size := by omega
            have HX9 : Hid (Ob w R w.heap.size cb a len cap (p : Int) (.slice (some ⟨g, 0, none⟩) u3 cp) (xs.take u3) (wB.setCell ⟨cb, 1, none⟩ (.slice (some ⟨g, 0, none⟩) u3 cp))) := HO7.out.cut (by rw [HXK.out]) u3 (by rw [HXK.out]; exact hu4)
            have HL9 : Hid ((xs.take u3).length ≤ 23) := by show (xs.take u3).length ≤ 23; have := HXK.out; simp; omega
            have HW9 : Hid (∀ x ∈ xs.take u3, (Lit.int .i64 x).wf = true) := fun x hx => HXW.out x (List.mem_of_mem_take hx)
            clear hw1 c1
            have hO9 := HX9.out
            obtain ⟨⟨v0, e0⟩, ⟨v1, e1⟩⟩ := And.intro (hO9.r 0 (by decide)) (hO9.r 1 (by decide))
            have f0 := hO9.rf 0
            have f1 := hO9.rf 1
            have g0 := hO9.c0
            have g1 := hO9.c1
            clear hO9
            have HD : Hid (ObAns _ _ _ _ _ _ _) := HX9.out.done (.int .i64 (p : Int)) (.slice (some ⟨g, 0, none⟩) u3 cp) HPW.out HL9.out HW9.out
            have HQ : Hid (_ ∧ _) := set2 HX9.out.r (.int .i64 (p : Int)) (.slice (some ⟨g, 0, none⟩) u3 cp)
            go_wp2
            refine bodyPost_ret (v := .agg #[.int .i64 (p : Int), (.slice (some ⟨g, 0, none⟩) u3 cp)]) ?_ rfl HD.out
            obtain ⟨q0, q1⟩ := HQ.out
            simp [results, Try.results24, go_sem, q0, q1]
        · by_cases hq2 : q = 2
          · subst hq2
            have hO6 : Ob w R w.heap.size cb a len cap (p : Int) (.slice (some ⟨g, 0, none⟩) kk.size cp) xs w6.drew := HX6.out.drawn (gdraws (grefl _ _) 1) (HX6.out.rd.draws 1)
            have hcp := HCP.out
            have hkki : (1 : Int) ≤ (kk.size : Int) := by omega
            have hxk := HXK.out
            go_wp2_with fail
            go_region_held3 (fun w' => w'.cell? ⟨cb, 1, none⟩ = some (.slice (some ⟨g, 0, none⟩) kk.size cp)) (first | with_reducible exact hO6.c1 | with_reducible exact (hO6.over (by rw [hxk]) _ _).c1)
              (first | (go_at_call 25; refine (below_pos _ R a len cap hO6.rd (kk.size : Int) (by omega) (by omega)).mono ?_; rintro e wB ⟨u3, rfl, hu3, hrB, hbB⟩; have hC2 := hO6.drawn hbB hrB; clear hO6 hrB hbB; have hO6 := hC2; clear hC2; have hu30 : (0 : Int) ≤ (u3 : Int) := (by omega)) | (go_at_call 43; refine (ref_any _ R a len cap hO6.rd).mono ?_; rintro e wC ⟨y3, rfl, hy3, hrC, hbC⟩; have hC2 := hO6.drawn hbC hrC; clear hO6 hrC hbC; have hO6 := hC2; clear hC2; have hu5 : u3 < kk.size := (by omega); obtain ⟨k0, kf⟩ := hO6.at hxk u3 hu5))
            all_goals
              have HX9 : Hid (Ob w R w.heap.size cb a len cap (p : Int) (.slice (some ⟨g, 0, none⟩) kk.size cp) (xs.set u3 y3) (wC.setCell ⟨g, u3, none⟩ (.int .i64 y3))) := hO6.over (by rw [hxk]) u3 y3
              have HL9 : Hid ((xs.set u3 y3).length ≤ 23) := by show (xs.set u3 y3).length ≤ 23; simp; omega
              have HW9 : Hid (∀ x ∈ xs.set u3 y3, (Lit.int .i64 x).wf = true) := set_wf HXW.out u3 y3 hy3
              clear hO6 hy3 k0 kf
              have hO9 := HX9.out
              obtain ⟨⟨v0, e0⟩, ⟨v1, e1⟩⟩ := And.intro (hO9.r 0 (by decide)) (hO9.r 1 (by decide))
              have f0 := hO9.rf 0
              have f1 := hO9.rf 1
              have g0 := hO9.c0
              have g1 := hO9.c1
              clear hO9
              have HD : Hid (ObAns _ _ _ _ _ _ _) := HX9.out.done (.int .i64 (p : Int)) (.slice (some ⟨g, 0, none⟩) kk.size cp) HPW.out HL9.out HW9.out
              have HQ : Hid (_ ∧ _) := set2 HX9.out.r (.int .i64 (p : Int)) (.slice (some ⟨g, 0, none⟩) kk.size cp)
              go_wp2
              refine bodyPost_ret (v := .agg #[.int .i64 (p : Int), (.slice (some ⟨g, 0, none⟩) kk.size cp)]) ?_ rfl HD.out
              obtain ⟨q0, q1⟩ := HQ.out
              simp [results, Try.results24, go_sem, q0, q1]
          · have n0 : (((q : Nat) : Int) == 0) = false := by simp; omega
            have n1 : (((q : Nat) : Int) == 1) = false := by simp; omega
            have n2 : (((q : Nat) : Int) == 2) = false := by simp; omega
            have HL9 : Hid (xs.length ≤ 23) := by show xs.length ≤ 23; have := HXK.out; omega
            have hO9 := HX6.out
            obtain ⟨⟨v0, e0⟩, ⟨v1, e1⟩⟩ := And.intro (hO9.r 0 (by decide)) (hO9.r 1 (by decide))
            have f0 := hO9.rf 0
            have f1 := hO9.rf 1
            have g0 := hO9.c0
            have g1 := hO9.c1
            clear hO9
            have HD : Hid (ObAns _ _ _ _ _ _ _) := HX6.out.done (.int .i64 (p : Int)) (.slice (some ⟨g, 0, none⟩) kk.size cp) HPW.out HL9.out HXW.out
            have HQ : Hid (_ ∧ _) := set2 HX6.out.r (.int .i64 (p : Int)) (.slice (some ⟨g, 0, none⟩) kk.size cp)
            go_wp2
            refine bodyPost_ret (v := .agg #[.int .i64 (p : Int), (.slice (some ⟨g, 0, none⟩) kk.size cp)]) ?_ rfl HD.out
            obtain ⟨q0, q1⟩ := HQ.out
            simp [results, Try.results24, go_sem, q0, q1]
end Go.Proofs.Ytnacdfoejmjlgaa.rd
